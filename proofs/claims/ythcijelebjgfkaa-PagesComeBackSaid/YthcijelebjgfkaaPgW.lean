/- pages: the small functions of both sides. -/
import Derived.Test.YthcijelebjgfkaaPgMath
import Derived.Test.YthcijelebjgfkaaFlashW
import Derived.Test.YthcijelebjgfkaaYRow
import Derived.WalkLawsBesides
import Derived.Laws.IdiomStrings
import Derived.Laws.Externs
import GoSem.Extern.BytealgCount
namespace Go.Proofs.Ythcijelebjgfkaa
open Go.RowKit

/-- a string as a new row of bytes -/
theorem bytes_of (s : ByteArray) (w : World) : ∃ (c : Nat) (W : World), (convert 9 22 (.string s)).run Try.prog w = .ok (.slice (some ⟨w.heap.size, 0, none⟩) s.size c) W ∧ Below w.heap.size w W ∧ w.heap.size < W.heap.size ∧
    ∀ k (hk : k < s.size), W.cell? ⟨w.heap.size, k, none⟩ = some (.int .u8 (s[k].toNat : Int)) := by
  refine ⟨_, _, run_bytes_of_string (P := Try.prog) w 9 22 5 s Try.underlying9 Try.underlying22 Try.underlying5, ?_, ?_, fun k hk => ?_⟩
  · exact (Below.refl _ _).drew.alloc (by simp) _
  · simp
  · have := World.cell?_alloc_mark w.drew (bytesRow s (grownCap w s.size 0 5)) 5 ((bytesRow s (grownCap w s.size 0 5)).size, (bytesRow s (grownCap w s.size 0 5)).size + 1) k
    have hz : w.drew.heap.size = w.heap.size := rfl
    rw [hz] at this
    rw [this, bytesRow_at s _ k hk]
    rfl
def NameAt (s : ByteArray) (i : Value) : Prop := ∃ k : Nat, k ≤ s.size ∧ i = .int .i64 k ∧ ∀ j (hj : j < s.data.toList.length), j < k → okC s.data.toList[j] = true
theorem NameAt.next {s : ByteArray} {k : Nat} (hk : k < s.size) (hok : ∀ j (hj : j < s.data.toList.length), j < k → okC s.data.toList[j] = true) (h : okC s[k] = true) : ∀ j (hj : j < s.data.toList.length), j < k + 1 → okC s.data.toList[j] = true := by
  intro j hj hjk
  by_cases e : j = k
  · subst e; exact h
  · exact hok j hj (by omega)
set_option maxHeartbeats 2000000 in
set_option maxRecDepth 100000 in
theorem isNameP_any (s : ByteArray) (w : World) (hs : s.size ≤ 9223372036854775807) :
    Calls Try.prog 43 #[.string s] w fun e w' => e = .returned (.bool (nmB s.data.toList)) ∧ Below w.heap.size w w' := by
  have hsl : s.data.toList.length = s.size := rfl
  by_cases h1 : 1 ≤ s.size ∧ s.size ≤ 32
  · have d1 : decide ((1 : Int) ≤ (s.size : Int) ∧ (s.size : Int) ≤ 32) = true := decide_eq_true (by omega)
    obtain ⟨C, W, hcv, hbW, hzW, hcell⟩ := bytes_of s w
    have HCE := Lib.hid hcell
    obtain ⟨r, hr⟩ : ∃ r, r = nmB s.data.toList := ⟨_, rfl⟩
    rw [← hr]
    have HR := Lib.hid hr
    have HSL := Lib.hid hsl
    have HB := Lib.hid h1
    clear hcell hsl hr h1
    go_enter Try.func43, Try.ntmps43
    go_wp2_with (first | (go_at_call 42; refine (swithin_any _ _ _ _).mono ?_; rintro e w' ⟨rfl, rfl⟩) | fail)
    go_loop [4, 12] (fun _ i => NameAt s i) (fun _ i => s.size - (intOf i).toNat)
    case atStart => exact ⟨0, Nat.zero_le _, rfl, fun j _ h => absurd h (by omega)⟩
    case round =>
      obtain ⟨k, hk, rfl, hok⟩ := hrel
      by_cases hlt : k < s.size
      · have hc := HCE.out k hlt
        have hke : s.data.toList[k]'(by rw [HSL.out]; exact hlt) = s[k] := rfl
        have HNX := Lib.hid (NameAt.next hlt hok)
        have HBAD : Hid (okC s[k] = false → r = false) := Lib.hid (fun hh => by rw [HR.out]; exact nmB_bad k (by rw [HSL.out]; exact hlt) hh)
        clear hok hke
        unfold okC at HNX HBAD
        generalize s[k].toNat = n at *
        by_cases c1 : n ≤ 32
        · have HRF : Hid (r = false) := Lib.hid (HBAD.out (by simp; omega))
          go_wp2_with fail
          go_ret
          exact ⟨ret_bool HRF.out.symm, hbW⟩
        · by_cases c2 : 126 < n
          · have HRF : Hid (r = false) := Lib.hid (HBAD.out (by simp; omega))
            go_wp2_with fail
            go_ret
            exact ⟨ret_bool HRF.out.symm, hbW⟩
          · have HOK := Lib.hid (HNX.out (by simp; omega))
            go_wp2_with fail
            go_round
            case rel => exact ⟨k + 1, by omega, by go_num, HOK.out⟩
            case measure => simp [intOf]; omega
      · have HRF : Hid (r = true) := Lib.hid (by rw [HR.out]; exact nmB_yes (by rw [HSL.out]; exact HB.out.1) (by rw [HSL.out]; exact HB.out.2) (fun j hj => hok j hj (by rw [HSL.out] at hj; omega)))
        clear hok
        go_wp2_with fail
        go_ret
        exact ⟨ret_bool HRF.out.symm, hbW⟩
  · have d1 : decide ((1 : Int) ≤ (s.size : Int) ∧ (s.size : Int) ≤ 32) = false := decide_eq_false (by omega)
    rw [nmB_no (by rw [hsl]; exact h1)]
    clear hsl h1
    go_enter Try.func43, Try.ntmps43
    go_wp2_with (first | (go_at_call 42; refine (swithin_any _ _ _ _).mono ?_; rintro e w' ⟨rfl, rfl⟩) | fail)
    go_ret
    exact ⟨rfl, Below.refl _ _⟩
set_option maxHeartbeats 2000000 in
set_option maxRecDepth 100000 in
theorem isNameR_any (s : ByteArray) (w : World) (hs : s.size ≤ 9223372036854775807) :
    Calls Try.prog 47 #[.string s] w fun e w' => e = .returned (.bool (nmB s.data.toList)) ∧ w = w' := by
  have hsl : s.data.toList.length = s.size := rfl
  obtain ⟨r, hr⟩ : ∃ r, r = nmB s.data.toList := ⟨_, rfl⟩
  rw [← hr]
  have HR := Lib.hid hr
  have HSL := Lib.hid hsl
  clear hsl hr
  go_enter Try.func47, Try.ntmps47
  go_wp2_with fail
  go_loop [3] (fun i => NameAt s i) (fun i => s.size - (intOf i).toNat)
  case atStart => exact ⟨0, Nat.zero_le _, rfl, fun j _ h => absurd h (by omega)⟩
  case round =>
    obtain ⟨k, hk, rfl, hok⟩ := hrel
    by_cases hlt : k < s.size
    · have hke : s.data.toList[k]'(by rw [HSL.out]; exact hlt) = s[k] := rfl
      have HNX := Lib.hid (NameAt.next hlt hok)
      have HBAD : Hid (okC s[k] = false → r = false) := Lib.hid (fun hh => by rw [HR.out]; exact nmB_bad k (by rw [HSL.out]; exact hlt) hh)
      clear hok hke
      unfold okC at HNX HBAD
      have hnb : s[k].toNat ≤ 255 := by have := s[k].toNat_lt; omega
      by_cases c1 : s[k].toNat < 33
      · have HRF : Hid (r = false) := Lib.hid (HBAD.out (by simp; omega))
        go_wp2_with fail
        go_ret
        exact ⟨ret_bool HRF.out.symm, rfl⟩
      · by_cases c2 : 126 < s[k].toNat
        · have HRF : Hid (r = false) := Lib.hid (HBAD.out (by simp; omega))
          go_wp2_with fail
          go_ret
          exact ⟨ret_bool HRF.out.symm, rfl⟩
        · have HOK := Lib.hid (HNX.out (by simp; omega))
          go_wp2_with fail
          go_round
          case rel => exact ⟨k + 1, by omega, by go_num, HOK.out⟩
          case measure => simp [intOf]; omega
    · have HW := Lib.hid (fwithin_any (s.size : Int) 1 32)
      have hre : r = decide ((1 : Int) ≤ (s.size : Int) ∧ (s.size : Int) ≤ 32) := by
        rw [HR.out]
        by_cases h1 : 1 ≤ s.size ∧ s.size ≤ 32
        · rw [nmB_yes (by rw [HSL.out]; exact h1.1) (by rw [HSL.out]; exact h1.2) (fun j hj => hok j hj (by rw [HSL.out] at hj; omega))]
          simp; omega
        · rw [nmB_no (by rw [HSL.out]; exact h1)]
          simp; omega
      rw [← hre] at HW
      clear hok hre
      go_wp2_with fail
      refine (HW.out _).mono ?_
      rintro e w1 ⟨rfl, rfl⟩
      go_wp2_with fail
      go_ret
      exact ⟨rfl, rfl⟩
set_option maxHeartbeats 400000 in
theorem roomIn_any (ps : Int) (s : ByteArray) (w : World) (hp : 64 ≤ ps ∧ ps ≤ 1024) (hs : s.size ≤ 32) :
    Calls Try.prog 44 #[.int .i64 ps, .string s] w fun e w' => e = .returned (.int .i64 (ps - 15 - (s.size : Int))) ∧ w = w' := by
  obtain ⟨h1, h2⟩ := hp
  go_enter Try.func44, Try.ntmps44
  go_wp2
  go_ret
  exact ⟨ret_int (by omega), rfl⟩
set_option maxHeartbeats 400000 in
theorem room_any (ps : Int) (s : ByteArray) (w : World) (hp : 64 ≤ ps ∧ ps ≤ 1024) (hs : s.size ≤ 32) :
    Calls Try.prog 48 #[.int .i64 ps, .string s] w fun e w' => e = .returned (.int .i64 (ps - 15 - (s.size : Int))) ∧ w = w' := by
  obtain ⟨h1, h2⟩ := hp
  go_enter Try.func48, Try.ntmps48
  go_wp2
  go_ret
  exact ⟨ret_int (by omega), rfl⟩
end Go.Proofs.Ythcijelebjgfkaa
