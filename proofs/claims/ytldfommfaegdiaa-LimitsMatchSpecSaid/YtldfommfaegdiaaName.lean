/- names: IsName of both sides. -/
import Derived.Test.YtldfommfaegdiaaNameMath
import Derived.WalkKit
import Derived.WalkLawsBesides
import Derived.Outline
import Derived.Handy
import Derived.Lib.Hide
import Derived.Lib.Bytealg
import Derived.Laws.Externs
import Derived.Laws.IdiomStrings
import GoSem.Extern.BytealgIndexByte
namespace Go.Proofs.Ytldfommfaegdiaa
open Go.RowKit

set_option maxHeartbeats 400000 in
theorem isSmall_any (n : Nat) (w : World) :
    Calls Try.prog 59 #[.int .u8 (n : Int)] w fun e w' => e = .returned (.bool (smB n)) ∧ w = w' := by
  unfold smB
  by_cases h1 : 97 ≤ n
  · by_cases h2 : n ≤ 122
    all_goals
      go_enter Try.func59, Try.ntmps59
      go_wp2
      go_ret
      exact ⟨ret_bool (by rw [Bool.eq_iff_iff]; simp; omega), rfl⟩
  · go_enter Try.func59, Try.ntmps59
    go_wp2
    go_ret
    exact ⟨ret_bool (by first | (simp; omega) | simp), rfl⟩
/-- where a byte is in the marks of a name -/
def mkI (n : Nat) : Int := if n = 45 then 0 else if n = 95 then 1 else -1
theorem marks_at (n : Nat) (h : n ≤ 255) : Lib.indexByte (ByteArray.mk #[45, 95]).data.toList ((n : Int).toNat).toUInt8 = mkI n := by
  have e : ((n : Int).toNat).toUInt8 = UInt8.ofNat n := rfl
  rw [e]
  unfold mkI
  have hn : (UInt8.ofNat n).toNat = n := by simp; omega
  by_cases h1 : n = 45
  · subst h1; rfl
  · by_cases h2 : n = 95
    · subst h2; rfl
    · rw [if_neg h1, if_neg h2]
      have d1 : ((45 : UInt8) == UInt8.ofNat n) = false := by
        rw [beq_eq_false_iff_ne]; intro e; have := congrArg UInt8.toNat e; rw [hn] at this; exact h1 this.symm
      have d2 : ((95 : UInt8) == UInt8.ofNat n) = false := by
        rw [beq_eq_false_iff_ne]; intro e; have := congrArg UInt8.toNat e; rw [hn] at this; exact h2 this.symm
      show Lib.indexByte [45, 95] (UInt8.ofNat n) = -1
      simp [Lib.indexByte, d1, d2]
theorem run_marks (n : Nat) (h : n ≤ 255) (w : World) :
    (callFunc 66 #[.string ⟨#[45, 95]⟩, .int .u8 (n : Int)]).run Try.prog w = .ok (.value (.int .i64 (mkI n))) w := by
  have hr : (Extern.BytealgIndexByte.indexByte #[.string ⟨#[45, 95]⟩, .int .u8 (n : Int)]).run Try.prog w = .ok (.int .i64 (mkI n)) w := by
    rw [Lib.run_indexByteString, marks_at n h]
  rw [run_callFunc_extern (fn := Try.f66) (e := Extern.BytealgIndexByte.indexByte) Try.func66 (by kernel_rfl) (by kernel_rfl) (by kernel_rfl) (by kernel_rfl), hr]
  rfl
set_option maxHeartbeats 400000 in
theorem marks_any (n : Nat) (h : n ≤ 255) (w : World) :
    Calls Try.prog 60 #[.string ⟨#[45, 95]⟩, .int .u8 (n : Int)] w fun e w' => e = .returned (.int .i64 (mkI n)) ∧ w = w' := by
  have h1 := run_marks n h w
  generalize mkI n = z at *
  go_enter Try.func60, Try.ntmps60
  go_wp2
  go_ret
  exact ⟨rfl, rfl⟩
/-- a string as a new row of bytes -/
theorem bytes_of (s : ByteArray) (w : World) : ∃ (c : Nat) (W : World), (convert 9 89 (.string s)).run Try.prog w = .ok (.slice (some ⟨w.heap.size, 0, none⟩) s.size c) W ∧ Below w.heap.size w W ∧ w.heap.size < W.heap.size ∧
    ∀ k (hk : k < s.size), W.cell? ⟨w.heap.size, k, none⟩ = some (.int .u8 (s[k].toNat : Int)) := by
  refine ⟨_, _, run_bytes_of_string (P := Try.prog) w 9 89 5 s Try.underlying9 Try.underlying89 Try.underlying5, ?_, ?_, fun k hk => ?_⟩
  · exact (Below.refl _ _).drew.alloc (by simp) _
  · simp
  · have := World.cell?_alloc_mark w.drew (bytesRow s (grownCap w s.size 0 5)) 5 ((bytesRow s (grownCap w s.size 0 5)).size, (bytesRow s (grownCap w s.size 0 5)).size + 1) k
    have hz : w.drew.heap.size = w.heap.size := rfl
    rw [hz] at this
    rw [this, bytesRow_at s _ k hk]
    rfl
set_option maxHeartbeats 2000000 in
set_option maxRecDepth 100000 in
theorem is_any (s : ByteArray) (w : World) (hs : s.size ≤ 9223372036854775807) :
    Calls Try.prog 49 #[.string s, .string ⟨#[45, 95]⟩] w fun e w' => e = .returned (.bool (isN s.data.toList)) ∧ Below w.heap.size w w' := by
  have hsl : s.data.toList.length = s.size := rfl
  by_cases h0 : s.size = 0
  · have he : s = ⟨#[]⟩ := by
      cases s with | mk d => cases d with | mk l => simp [ByteArray.size] at h0; simp [h0]
    subst he
    go_enter Try.func49, Try.ntmps49
    go_wp2_with fail
    go_ret
    exact ⟨rfl, Below.refl _ _⟩
  · have e1 : s.toList.isEmpty = false := by
      rw [ByteArray.toList_eq]
      cases hh : s.data.toList with
      | nil => rw [hh] at hsl; simp at hsl; omega
      | cons a b => rfl
    have e2 : (s.toList == []) = false := by
      rw [ByteArray.toList_eq]
      cases hh : s.data.toList with
      | nil => rw [hh] at hsl; simp at hsl; omega
      | cons a b => rfl
    by_cases h4 : 40 < s.size
    · rw [isN_long (by rw [hsl]; exact h4)]
      have e3 : (40 : Int) < (s.size : Int) := by omega
      clear hsl
      go_enter Try.func49, Try.ntmps49
      go_wp2_with fail
      go_ret
      exact ⟨rfl, Below.refl _ _⟩
    · have hp : 0 < s.size := by omega
      have e3 : (s.size : Int) ≤ 40 := by omega
      have hg : s.data.toList.getD 0 0 = s[0] := by
        rw [List.getD_eq_getElem?_getD, List.getElem?_eq_getElem (by rw [hsl]; exact hp)]
        rfl
      by_cases h5 : smB s[0].toNat = true
      · have HF := Lib.hid h5
        have HSM := Lib.hid (isSmall_any s[0].toNat)
        rw [h5] at HSM
        obtain ⟨C, W, hcv, hbW, hzW, hcell⟩ := bytes_of s w
        have HG := Lib.hid hg
        have HSL := Lib.hid hsl
        have HCE := Lib.hid hcell
        obtain ⟨r, hr⟩ : ∃ r, r = isN s.data.toList := ⟨_, rfl⟩
        rw [← hr]
        have HR := Lib.hid hr
        clear h5 hg hsl hcell hr
        go_enter Try.func49, Try.ntmps49
        go_wp2_with fail
        refine (HSM.out _).mono ?_
        rintro e w1 ⟨rfl, rfl⟩
        go_wp2_with fail
        clear hcv
        go_loopw [6, 23] (fun _ i wr => ∃ k : Nat, k ≤ s.size ∧ i = .int .i64 k ∧ (∀ j (hj : j < s.data.toList.length), j < k → okB s.data.toList[j].toNat = true) ∧ W = wr) (fun _ i _ => s.size - (intOf i).toNat)
        case atStart => exact ⟨0, Nat.zero_le _, rfl, fun j _ h => absurd h (by omega), rfl⟩
        case round =>
          obtain ⟨k, hk, rfl, hok, rfl⟩ := hrel
          by_cases hlt : k < s.size
          · have c0 := HCE.out k hlt
            have hke : s.data.toList[k]'(by rw [HSL.out]; exact hlt) = s[k] := rfl
            have hnb : s[k].toNat ≤ 255 := by have := s[k].toNat_lt; omega
            have HST : Hid (okB s[k].toNat = true → ∀ j (hj : j < s.data.toList.length), j < k + 1 → okB s.data.toList[j].toNat = true) := Lib.hid (fun hh j hj hjk => by
              by_cases hjk2 : j = k
              · subst hjk2; exact hh
              · exact hok j hj (by omega))
            have HBAD : Hid (okB s[k].toNat = false → isN s.data.toList = false) := Lib.hid (fun hh => isN_bad k (by rw [HSL.out]; exact hlt) hh)
            generalize s[k].toNat = n at *
            have HM := Lib.hid (marks_any n hnb)
            clear hok hke
            have i0 : (0 : Int) ≤ (k : Int) := by omega
            have i1 : (k : Int) < (s.size : Int) := by omega
            by_cases hs1 : smB n = true
            · have HS1 := Lib.hid (isSmall_any n)
              rw [hs1] at HS1
              have HOK := Lib.hid (HST.out (ok_small hs1))
              clear hs1
              go_wp2_with fail
              refine (HS1.out _).mono ?_
              rintro e w3 ⟨rfl, rfl⟩
              go_wp2_with fail
              go_roundw
              case rel => exact ⟨k + 1, by omega, by go_num, HOK.out, by first | trivial | rfl⟩
              case measure => simp [intOf]; omega
            · have hs2 : smB n = false := by simpa using hs1
              have HS1 := Lib.hid (isSmall_any n)
              rw [hs2] at HS1
              by_cases hd : 48 ≤ n ∧ n ≤ 57
              · have HOK := Lib.hid (HST.out (by unfold okB; rw [decide_eq_true hd]; simp))
                obtain ⟨d1, d2⟩ := hd
                clear hs1 hs2
                go_wp2_with fail
                refine (HS1.out _).mono ?_
                rintro e w3 ⟨rfl, rfl⟩
                go_wp2_with fail
                go_roundw
                case rel => exact ⟨k + 1, by omega, by go_num, HOK.out, by first | trivial | rfl⟩
                case measure => simp [intOf]; omega
              · have hd2 : n < 48 ∨ 57 < n := by omega
                by_cases hm : n = 45 ∨ n = 95
                · have HOK := Lib.hid (HST.out (by unfold okB; rcases hm with rfl | rfl <;> simp))
                  have hmi : (0 : Int) ≤ mkI n := by unfold mkI; rcases hm with rfl | rfl <;> simp
                  generalize mkI n = z at *
                  clear hs1 hs2 hm hd
                  rcases hd2 with hd2 | hd2
                  all_goals
                    go_wp2_with fail
                    refine (HS1.out _).mono ?_
                    rintro e w3 ⟨rfl, rfl⟩
                    go_wp2_with fail
                    refine (HM.out _).mono ?_
                    rintro e w4 ⟨rfl, rfl⟩
                    go_wp2_with fail
                    go_roundw
                    case rel => exact ⟨k + 1, by omega, by go_num, HOK.out, by first | trivial | rfl⟩
                    case measure => simp [intOf]; omega
                · have hmi : mkI n = -1 := by unfold mkI; rw [if_neg (by omega), if_neg (by omega)]
                  rw [hmi] at HM
                  have HRF : Hid (r = false) := Lib.hid (by rw [HR.out]; exact HBAD.out (by unfold okB; rw [hs2, decide_eq_false hd]; simp; omega))
                  clear hs1 hs2 hm hd hmi
                  rcases hd2 with hd2 | hd2
                  all_goals
                    go_wp2_with fail
                    refine (HS1.out _).mono ?_
                    rintro e w3 ⟨rfl, rfl⟩
                    go_wp2_with fail
                    refine (HM.out _).mono ?_
                    rintro e w4 ⟨rfl, rfl⟩
                    go_wp2_with fail
                    go_ret
                    exact ⟨ret_bool HRF.out.symm, hbW⟩
          · have HRF : Hid (r = true) := Lib.hid (by rw [HR.out]; exact isN_yes (by rw [HSL.out]; omega) (by rw [HSL.out]; omega) (by rw [HG.out]; exact HF.out) (fun j hj => hok j hj (by rw [HSL.out] at hj; omega)))
            clear hok
            go_wp2_with fail
            go_ret
            exact ⟨ret_bool HRF.out.symm, hbW⟩
      · have h6 : smB s[0].toNat = false := by simpa using h5
        rw [isN_first (by rw [hg]; exact h6)]
        have HSM := Lib.hid (isSmall_any s[0].toNat)
        rw [h6] at HSM
        clear h5 h6 hg hsl
        go_enter Try.func49, Try.ntmps49
        go_wp2_with fail
        refine (HSM.out _).mono ?_
        rintro e w1 ⟨rfl, rfl⟩
        go_wp2_with fail
        go_ret
        exact ⟨rfl, Below.refl _ _⟩
set_option maxHeartbeats 400000 in
theorem isName_any (s : ByteArray) (w : World) (hs : s.size ≤ 9223372036854775807) :
    Calls Try.prog 32 #[.string s] w fun e w' => e = .returned (.bool (isN s.data.toList)) ∧ Below w.heap.size w w' := by
  have HI := Lib.hid (is_any s w hs)
  generalize isN s.data.toList = r at *
  go_enter Try.func32, Try.ntmps32
  go_wp2_with fail
  refine HI.out.mono ?_
  rintro e w1 ⟨rfl, hb⟩
  go_wp2_with fail
  go_ret
  exact ⟨rfl, hb⟩
end Go.Proofs.Ytldfommfaegdiaa
