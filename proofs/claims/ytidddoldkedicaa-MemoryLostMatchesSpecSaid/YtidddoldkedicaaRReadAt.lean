/- the walk of the reference's ReadAt. -/
import Derived.Test.YtidddoldkedicaaReadAt
namespace Go.Proofs.Ytidddoldkedicaa
open Go.RowKit

theorem decS_nat (n : Nat) (hn : n < 4194304) : decS (n : Int) = (((decN n).1 : Int), ((decN n).2.1 : Int), ((decN n).2.2 : Int)) := by
  unfold decS
  rw [if_pos ⟨by omega, by omega⟩]
  rfl
set_option maxRecDepth 100000 in
set_option maxHeartbeats 1000000 in
theorem rreadAt_any (A A' : Option Addr) (c c' : Nat) (l l' : List Int) (a : Int) (B : Nat) (w : World) (hB : B ≤ w.heap.size) (hl : l.length ≤ 9223372036854775807) (hl' : l'.length ≤ 9223372036854775807) (h : IR w B A l) (h' : IR w B A' l') :
    Calls Try.prog 32 #[bankV A A' l.length l'.length c c', .int .i64 a] w fun e w' => e = .returned (three' (readS l l' a)) ∧ Below w.heap.size w w' := by
  have HC := Lib.hid (fun (w1 : World) (hb : Below w.heap.size w w1) => rcheckBank_any A A' c c' l l' B w1 (Nat.le_trans hB hb.size) hl hl' (h.below (hb.mono hB)) (h'.below (hb.mono hB)))
  have HR := Lib.hid (show readS l l' a = if placeS l l' a = 0 then decS (l.getD a.toNat 0) else (0, 0, placeS l l' a) from rfl)
  generalize readS l l' a = R at *
  have hpr := fun q => place_right (l := l) (l' := l') (a := a) q
  have hpc := place_cases l l' a
  have hrt := fun q => (chk_right (l := l) (l' := l') q)
  have hb0 := box_below (.cells #[.slice A l.length c, .slice A' l'.length c'] 33) w
  have hc0 : (w.alloc (.cells #[.slice A l.length c, .slice A' l'.length c'] 33)).cell? ⟨w.heap.size, 0, none⟩ = some (.slice A l.length c) := by simp
  have hc01 : (w.alloc (.cells #[.slice A l.length c, .slice A' l'.length c'] 33)).cell? ⟨w.heap.size, 1, none⟩ = some (.slice A' l'.length c') := by simp
  have HCC := Lib.hid (HC.out _ hb0)
  have HPL := Lib.hid (fun (w : World) (hn : l.length ≤ 2000) => isPlace_any A A' l.length l'.length c c' a w hn)
  unfold bankV at *
  generalize hw0 : w.alloc (.cells #[.slice A l.length c, .slice A' l'.length c'] 33) = w0 at *
  have hz0 : w0.heap.size = w.heap.size + 1 := by rw [← hw0]; simp
  generalize placeS l l' a = P at *
  generalize chkB l l' = K at *
  rcases hpc with ⟨rfl, hin, rfl⟩ | ⟨rfl, hin, rfl⟩ | ⟨hK, rfl⟩
  · obtain ⟨hr, k, rfl, hk⟩ := hpr rfl
    rw [if_pos rfl, Int.toNat_natCast] at HR
    have hgd : l.getD k 0 = l[k] := by simp [List.getD, hk]
    rw [hgd] at HR
    have hfew := hr.few
    have hcod := hr.codes k hk
    obtain ⟨ad, rfl, had, hcell⟩ := h.get k hk
    have hk0 : (0 : Int) ≤ (k : Int) := Int.natCast_nonneg _
    have hk1 : (k : Int) < (l.length : Int) := by omega
    obtain ⟨n, hn⟩ : ∃ n : Nat, l[k] = (n : Int) := ⟨(l[k]).toNat, by omega⟩
    have hn2 : n < 4194304 := by omega
    rw [hn] at hcell HR
    rw [decS_nat n hn2] at HR
    have HD := Lib.hid (fun w => rdecoded_any n hn2 w)
    generalize decN n = D at *
    have hd : decide ((0 : Int) ≤ (k : Int) ∧ (k : Int) ≤ (l.length : Int) - 1) = true := by simp; omega
    rw [hd] at HPL
    clear hpr hgd hrt hr hcod hn hn2 hin hd
    go_enter Try.func32, Try.ntmps32
    go_wp2_with fail
    refine HCC.out.mono ?_
    rintro e w1 ⟨rfl, hb1⟩
    have hc1 := (Below.at_ hb1 w.heap.size (by omega) 0).trans hc0
    have hc2 := (Below.at_ hb1 w.heap.size (by omega) 1).trans hc01
    have hb2 := hb0.trans (hb1.mono (by omega))
    clear hw0
    go_wp2_with fail
    refine (HPL.out w1 hfew).mono ?_
    rintro e w2 ⟨rfl, hb3⟩
    have hc3 := (Below.at_ hb3 w.heap.size (by have := hb1.size; omega) 0).trans hc1
    have hb4 := hb2.trans (hb3.mono hb2.size)
    have hcell1 := (hb4.cell (p := ad.add k) (by rw [add_block]; omega)).trans hcell
    go_wp2_with fail
    refine (HD.out _).mono ?_
    rintro e w' ⟨rfl, rfl⟩
    go_wp2_with fail
    refine bodyPost_ret (v := .tuple #[.int .i64 (D.1 : Int), .int .i64 (D.2.1 : Int), .int .i64 (D.2.2 : Int)]) (by simp [results, Try.results32, go_sem]) rfl ⟨?_, hb4⟩
    rw [HR.out]
    rfl
  · rw [if_neg (by omega)] at HR
    have hfew := (hrt rfl).few
    have hd : decide ((0 : Int) ≤ a ∧ a ≤ (l.length : Int) - 1) = false := by simp; omega
    rw [hd] at HPL
    clear hpr hrt hin hd
    go_enter Try.func32, Try.ntmps32
    go_wp2_with fail
    refine HCC.out.mono ?_
    rintro e w1 ⟨rfl, hb1⟩
    have hc1 := (Below.at_ hb1 w.heap.size (by omega) 0).trans hc0
    have hc2 := (Below.at_ hb1 w.heap.size (by omega) 1).trans hc01
    have hb2 := hb0.trans (hb1.mono (by omega))
    clear hw0
    go_wp2_with fail
    refine (HPL.out w1 hfew).mono ?_
    rintro e w2 ⟨rfl, hb3⟩
    have hb4 := hb2.trans (hb3.mono hb2.size)
    go_wp2_with fail
    refine bodyPost_ret (v := .tuple #[.int .i64 0, .int .i64 0, .int .i64 9]) (by simp [results, Try.results32, go_sem]) rfl ⟨?_, hb4⟩
    rw [HR.out]
    rfl
  · rw [if_neg hK] at HR
    have hne : (P != 0) = true := by simpa using hK
    clear hpr hrt
    go_enter Try.func32, Try.ntmps32
    go_wp2_with fail
    refine HCC.out.mono ?_
    rintro e w1 ⟨rfl, hb1⟩
    have hb2 := hb0.trans (hb1.mono (by omega))
    go_wp2_with fail
    refine bodyPost_ret (v := .tuple #[.int .i64 0, .int .i64 0, .int .i64 P]) (by simp [results, Try.results32, go_sem]) rfl ⟨?_, hb2⟩
    rw [HR.out]
    rfl
end Go.Proofs.Ytidddoldkedicaa
