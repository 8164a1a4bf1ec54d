/- the reference's timeAt, TimeOf and TickOf. -/
import Derived.Test.YtdcnpbdkhcdinaaTickOf
namespace Go.Proofs.Ytdcnpbdkhcdinaa
open Go.RowKit

set_option maxRecDepth 100000 in
set_option maxHeartbeats 2000000 in
theorem timeAt_any (A : Option Addr) (c : Nat) (l : List Mk) (n : Int) (w : World) (hA : MR w w.heap.size A l) (hg : Good l) (hn : 0 ≤ n ∧ n ≤ 1000000000000) :
    Calls Try.prog 52 #[.slice A l.length c, .int .i64 n] w (TimePost l n w) := by
  obtain ⟨h2, h2000, hok, hso⟩ := hg
  obtain ⟨ad, rfl, had, -, -, -⟩ := hA.get 0 (by omega)
  have HOL := Lib.hid (fun (a b : Mk) ha hb hlt w' => through_any a b n ha hb hlt hn w')
  have HOK := Lib.hid hok
  have HSO := Lib.hid hso
  clear hok hso hn
  go_enter Try.func52, Try.ntmps52
  go_wp2_with fail
  go_loopw [5] (fun i wr => ∃ k : Nat, k + 2 ≤ l.length ∧ i = .int .i64 k ∧ w = wr ∧ (k = 0 ∨ ∃ h : k < l.length, l[k].t ≤ n)) (fun i _ => l.length - (intOf i).toNat)
  case atStart => exact ⟨0, by omega, rfl, rfl, .inl rfl⟩
  case round =>
    obtain ⟨k, hk, rfl, rfl, hlow⟩ := hrel
    have HLOW := Lib.hid hlow
    clear hlow
    obtain ⟨ad1, hadd1, -, c0, c1, c2⟩ := hA.get k (by omega)
    obtain rfl : ad = ad1 := by injection hadd1
    have hk1 : k < l.length := by omega
    obtain ⟨J, hJ⟩ : ∃ J, J = k + 1 := ⟨_, rfl⟩
    have hJl : J < l.length := by omega
    obtain ⟨ad2, hadd2, -, d0, d1, d2⟩ := hA.get J hJl
    obtain rfl : ad = ad2 := by injection hadd2
    clear hadd1 hadd2
    have i0 : (0 : Int) ≤ (k : Int) := by omega
    have i1 : (k : Int) < (l.length : Int) := by omega
    have i2 : (0 : Int) ≤ (J : Int) := by omega
    have i3 : (J : Int) < (l.length : Int) := by omega
    have i4 : (k : Int) + 1 = (J : Int) := by omega
    have i5 : IntKind.i64.wrap ((k : Int) + 1) = (J : Int) := by rw [i4]; exact IntWalk.i64_in _ (by omega)
    have i6 : wrap64 ((k : Int) + 1) = (J : Int) := by rw [i4]; exact IntWalk.wrap64_in _ (by omega)
    have i7 : IntKind.i64.wrap (J : Int) = (J : Int) := IntWalk.i64_in _ (by omega)
    have hxt := HSO.out.lt J k hJl (by omega)
    have HSEG : Hid (J + 1 = l.length ∨ n < l[J].t → Seg l n J) := Lib.hid fun h => ⟨hJl, by omega, by
      rcases HLOW.out with e | ⟨_, e⟩
      · exact .inl (by omega)
      · right
        have : l[J - 1]'(by omega) = l[k] := by subst hJ; rfl
        rw [this]
        exact e, h⟩
    have HTP : Hid (Seg l n J → TimeP l n (lineF l[k] l[J] n)) := Lib.hid fun h => ⟨J, h, by subst hJ; rfl⟩
    have HTH := Lib.hid (fun w' => HOL.out l[k] l[J] (HOK.out _ (List.getElem_mem _)) (HOK.out _ (List.getElem_mem _)) hxt w')
    have HNX : Hid (l[J].t ≤ n → (J = 0 ∨ ∃ h : J < l.length, l[J].t ≤ n)) := Lib.hid fun h => .inr ⟨hJl, h⟩
    generalize lineF l[k] l[J] n = x at *
    generalize l[k] = m1 at *
    generalize hmJ : l[J] = m2 at *
    obtain ⟨xt, xz, xo⟩ := m1
    obtain ⟨yt, yz, yo⟩ := m2
    simp only at c0 c1 c2 d0 d1 d2 HSEG HNX
    unfold mv LinePost at HTH
    simp only at HTH
    clear hxt hJ
    by_cases hc1 : (k : Int) + 2 < (l.length : Int)
    · have q1 : decide ((k : Int) + 2 < (l.length : Int)) = true := by simpa using hc1
      by_cases hc2 : yt ≤ n
      · have q2 : decide (yt ≤ n) = true := by simpa using hc2
        have HN := Lib.hid (HNX.out hc2)
        clear HNX HSEG HTP HTH hmJ
        go_wp2_with fail
        go_roundw
        case rel =>
          refine ⟨J, by omega, rfl, trivial, ?_⟩
          exact HN.out
        case measure => simp [intOf]; omega
      · have q2 : decide (yt ≤ n) = false := by simpa using hc2
        have HTT := Lib.hid (HTP.out (HSEG.out (.inr (by omega))))
        have hSS : ∀ w', Below w.heap.size w w' → (w'.cell? (ad.add (k * 3)) = some (.int .i64 xt) ∧ w'.cell? ⟨(ad.add (k * 3)).block, (ad.add (k * 3)).off + 1, none⟩ = some (.int .i64 xz) ∧ w'.cell? ⟨(ad.add (k * 3)).block, (ad.add (k * 3)).off + 2, none⟩ = some (.int .i64 xo) ∧ w'.cell? (ad.add (J * 3)) = some (.int .i64 yt) ∧ w'.cell? ⟨(ad.add (J * 3)).block, (ad.add (J * 3)).off + 1, none⟩ = some (.int .i64 yz) ∧ w'.cell? ⟨(ad.add (J * 3)).block, (ad.add (J * 3)).off + 2, none⟩ = some (.int .i64 yo)) := fun w' hw =>
          ⟨(hw.cell (by rw [add_block]; omega)).trans c0, (Below.at_ hw _ (by rw [add_block]; omega) _).trans c1, (Below.at_ hw _ (by rw [add_block]; omega) _).trans c2, (hw.cell (by rw [add_block]; omega)).trans d0, (Below.at_ hw _ (by rw [add_block]; omega) _).trans d1, (Below.at_ hw _ (by rw [add_block]; omega) _).trans d2⟩
        have HSS := Lib.hid hSS
        have HOC := Lib.hid (fun (w' : World) (hb : Below w.heap.size w w') (hz : w.heap.size ≤ w'.heap.size) => carryB (HTH.out w') hb hz)
        clear hSS HTH HNX HSEG HTP hmJ HLOW HOL HOK HSO hA
        go_wp2_with fail
        go_region_held3 (fun w' => w'.cell? (ad.add (k * 3)) = some (.int .i64 xt) ∧ w'.cell? ⟨(ad.add (k * 3)).block, (ad.add (k * 3)).off + 1, none⟩ = some (.int .i64 xz) ∧ w'.cell? ⟨(ad.add (k * 3)).block, (ad.add (k * 3)).off + 2, none⟩ = some (.int .i64 xo) ∧ w'.cell? (ad.add (J * 3)) = some (.int .i64 yt) ∧ w'.cell? ⟨(ad.add (J * 3)).block, (ad.add (J * 3)).off + 1, none⟩ = some (.int .i64 yz) ∧ w'.cell? ⟨(ad.add (J * 3)).block, (ad.add (J * 3)).off + 2, none⟩ = some (.int .i64 yo))
          (first | go_keep | exact HSS.out _ (by assumption))
          (first
           | (go_at_call 79
              refine (HOC.out _ ?_ ?_).mono ?_
              · first | assumption | exact (Below.refl _ _).drew | exact Below.drew (by assumption)
              · first | assumption | (simp; done) | (simp; omega)
              rintro e w3 ⟨⟨v, rfl, hnear⟩, hb3, hs3⟩))
        go_wp2_with fail
        go_ret
        exact ⟨⟨v, x, rfl, hnear, HTT.out⟩, hb3⟩
    · have q1 : decide ((k : Int) + 2 < (l.length : Int)) = false := by simpa using hc1
      have HTT := Lib.hid (HTP.out (HSEG.out (.inl (by omega))))
      have hSS : ∀ w', Below w.heap.size w w' → (w'.cell? (ad.add (k * 3)) = some (.int .i64 xt) ∧ w'.cell? ⟨(ad.add (k * 3)).block, (ad.add (k * 3)).off + 1, none⟩ = some (.int .i64 xz) ∧ w'.cell? ⟨(ad.add (k * 3)).block, (ad.add (k * 3)).off + 2, none⟩ = some (.int .i64 xo) ∧ w'.cell? (ad.add (J * 3)) = some (.int .i64 yt) ∧ w'.cell? ⟨(ad.add (J * 3)).block, (ad.add (J * 3)).off + 1, none⟩ = some (.int .i64 yz) ∧ w'.cell? ⟨(ad.add (J * 3)).block, (ad.add (J * 3)).off + 2, none⟩ = some (.int .i64 yo)) := fun w' hw =>
        ⟨(hw.cell (by rw [add_block]; omega)).trans c0, (Below.at_ hw _ (by rw [add_block]; omega) _).trans c1, (Below.at_ hw _ (by rw [add_block]; omega) _).trans c2, (hw.cell (by rw [add_block]; omega)).trans d0, (Below.at_ hw _ (by rw [add_block]; omega) _).trans d1, (Below.at_ hw _ (by rw [add_block]; omega) _).trans d2⟩
      have HSS := Lib.hid hSS
      have HOC := Lib.hid (fun (w' : World) (hb : Below w.heap.size w w') (hz : w.heap.size ≤ w'.heap.size) => carryB (HTH.out w') hb hz)
      clear hSS HTH HNX HSEG HTP hmJ HLOW HOL HOK HSO hA
      go_wp2_with fail
      go_region_held3 (fun w' => w'.cell? (ad.add (k * 3)) = some (.int .i64 xt) ∧ w'.cell? ⟨(ad.add (k * 3)).block, (ad.add (k * 3)).off + 1, none⟩ = some (.int .i64 xz) ∧ w'.cell? ⟨(ad.add (k * 3)).block, (ad.add (k * 3)).off + 2, none⟩ = some (.int .i64 xo) ∧ w'.cell? (ad.add (J * 3)) = some (.int .i64 yt) ∧ w'.cell? ⟨(ad.add (J * 3)).block, (ad.add (J * 3)).off + 1, none⟩ = some (.int .i64 yz) ∧ w'.cell? ⟨(ad.add (J * 3)).block, (ad.add (J * 3)).off + 2, none⟩ = some (.int .i64 yo))
        (first | go_keep | exact HSS.out _ (by assumption))
        (first
         | (go_at_call 79
            refine (HOC.out _ ?_ ?_).mono ?_
            · first | assumption | exact (Below.refl _ _).drew | exact Below.drew (by assumption)
            · first | assumption | (simp; done) | (simp; omega)
            rintro e w3 ⟨⟨v, rfl, hnear⟩, hb3, hs3⟩))
      go_wp2_with fail
      go_ret
      exact ⟨⟨v, x, rfl, hnear, HTT.out⟩, hb3⟩
set_option maxRecDepth 100000 in
set_option maxHeartbeats 2000000 in
theorem rtimeOf_any (A : Option Addr) (c : Nat) (l : List Mk) (n : Int) (w : World) (hl : l.length ≤ 9223372036854775807) (hA : MR w w.heap.size A l) :
    Calls Try.prog 21 #[.slice A l.length c, .int .i64 n] w (TimeOfPost l n w) := by
  have HC := Lib.hid (rcheckMarks_any A c l w hl hA)
  unfold TimeOfPost
  by_cases h : ckM l = 0
  · by_cases hn : n < 0 ∨ 1000000000000 < n
    · have hr : ckN l n = 1 := by unfold ckN; rw [if_neg (by simpa using h), if_pos hn]
      have HR : Hid (TimeR l n (0, 1)) := Lib.hid (by rw [← hr]; exact .inl ⟨by omega, rfl⟩)
      have d0 : decide (0 ≤ n ∧ n ≤ 1000000000000) = false := by simp; omega
      rw [h] at HC
      clear hr hn h hA
      go_enter Try.func21, Try.ntmps21
      go_wp2_with fail
      refine HC.out.mono ?_
      rintro e w1 ⟨rfl, hb1⟩
      go_wp2_with (first | (go_at_call 51; refine (within_any _ _ _ _).mono ?_; rintro e w' ⟨rfl, rfl⟩) | fail)
      go_ret2
      exact ⟨⟨_, _, rfl, HR.out⟩, hb1⟩
    · have d0 : decide (0 ≤ n ∧ n ≤ 1000000000000) = true := by simp; omega
      by_cases h1 : l.length = 1
      · have hr : ckN l n = 11 := by unfold ckN; rw [if_neg (by simpa using h), if_neg hn, if_pos h1]
        have HR : Hid (TimeR l n (0, 11)) := Lib.hid (by rw [← hr]; exact .inl ⟨by omega, rfl⟩)
        have d1 : ((l.length : Int) == 1) = true := by rw [beq_iff_eq]; omega
        rw [h] at HC
        clear hr hn h hA h1
        go_enter Try.func21, Try.ntmps21
        go_wp2_with fail
        refine HC.out.mono ?_
        rintro e w1 ⟨rfl, hb1⟩
        go_wp2_with (first | (go_at_call 51; refine (within_any _ _ _ _).mono ?_; rintro e w' ⟨rfl, rfl⟩) | fail)
        go_ret2
        exact ⟨⟨_, _, rfl, HR.out⟩, hb1⟩
      · have hr : ckN l n = 0 := by unfold ckN; rw [if_neg (by simpa using h), if_neg hn, if_neg h1]
        obtain ⟨-, hn2, hg⟩ := ckN_ok hr
        have d1 : ((l.length : Int) == 1) = false := beq_eq_false_iff_ne.2 (by omega)
        have HL := Lib.hid (fun (w1 : World) (hb : Below w.heap.size w w1) (n : Int) (hn : 0 ≤ n ∧ n ≤ 1000000000000) => timeAt_any A c l n w1 ((hA.below hb).lift hb.size) hg hn)
        rw [h] at HC
        have HG := Lib.hid hg
        have HCK := Lib.hid hr
        clear hr hn h hA h1 hg
        have HR := Lib.hid (fun x (hx : TimeP l n x) => (show TimeR l n (if 0 ≤ x ∧ x ≤ 1000000000000 then (x, 0) else (0, 1)) from .inr ⟨HCK.out, x, hx, rfl⟩))
        go_enter Try.func21, Try.ntmps21
        go_wp2_with fail
        refine HC.out.mono ?_
        rintro e w1 ⟨rfl, hb1⟩
        go_wp2_with (first | (go_at_call 51; refine (within_any _ _ _ _).mono ?_; rintro e w' ⟨rfl, rfl⟩) | fail)
        refine (HL.out _ hb1 n hn2).mono ?_
        rintro e w3 ⟨⟨v, x, rfl, hnear, htp⟩, hb3⟩
        have hb2 : Below w.heap.size w w3 := hb1.trans (hb3.mono hb1.size)
        have HT := Lib.hid (HR.out x htp)
        obtain ⟨hv, v1, v2⟩ := hnear
        clear htp hb3 HL HC HR
        by_cases hx : 0 ≤ x ∧ x ≤ 1000000000000
        · obtain rfl : v = x := by omega
          have e0 : decide (0 ≤ v ∧ v ≤ 1000000000000) = true := by simp; omega
          have HI : Hid (TimeR l n (v, 0)) := Lib.hid (by have := HT.out; rw [if_pos hx] at this; exact this)
          clear hv hx
          go_wp2_with (first | (go_at_call 51; refine (within_any _ _ _ _).mono ?_; rintro e w' ⟨rfl, rfl⟩) | fail)
          go_ret2
          exact ⟨⟨_, _, rfl, HI.out⟩, hb2⟩
        · have e0 : decide (0 ≤ v ∧ v ≤ 1000000000000) = false := by simp; omega
          have HI : Hid (TimeR l n (0, 1)) := Lib.hid (by have := HT.out; rw [if_neg hx] at this; exact this)
          clear hv hx
          go_wp2_with (first | (go_at_call 51; refine (within_any _ _ _ _).mono ?_; rintro e w' ⟨rfl, rfl⟩) | fail)
          go_ret2
          exact ⟨⟨_, _, rfl, HI.out⟩, hb2⟩
  · have hr : ckN l n = ckM l := by unfold ckN; rw [if_pos h]
    have HR : Hid (TimeR l n (0, ckM l)) := Lib.hid (by rw [← hr]; exact .inl ⟨by rw [hr]; exact h, rfl⟩)
    have hne : (ckM l != 0) = true := by simpa using h
    generalize ckM l = r at *
    clear h hA hr
    go_enter Try.func21, Try.ntmps21
    go_wp2_with fail
    refine HC.out.mono ?_
    rintro e w1 ⟨rfl, hb1⟩
    go_wp2_with fail
    go_ret2
    exact ⟨⟨_, _, rfl, HR.out⟩, hb1⟩
/-- the head of the reference's bisection -/
def RTickAt (l : List Mk) (z : Int) (w : World) (a b : Value) (wr : World) : Prop :=
  ∃ i j : Int, a = .int .i64 i ∧ b = .int .i64 j ∧ 0 ≤ i ∧ i ≤ j ∧ j ≤ 1000000000000 ∧ (i = 0 ∨ ∀ x, TimeP l (i - 1) x → x < z) ∧ (∀ x, TimeP l j x → z ≤ x) ∧ Below w.heap.size w wr
set_option maxRecDepth 100000 in
set_option maxHeartbeats 2000000 in
theorem rtickOf_any (A : Option Addr) (c : Nat) (l : List Mk) (z : Int) (w : World) (hl : l.length ≤ 9223372036854775807) (hA : MR w w.heap.size A l) :
    Calls Try.prog 23 #[.slice A l.length c, .int .i64 z] w (TickOfPost l z w) := by
  have HC := Lib.hid (rcheckMarks_any A c l w hl hA)
  unfold TickOfPost
  by_cases h : ckM l = 0
  · by_cases hn : z < 0 ∨ 1000000000000 < z
    · have hr : ckN l z = 1 := by unfold ckN; rw [if_neg (by simpa using h), if_pos hn]
      have HR : Hid (TickR l z (0, 1)) := Lib.hid (by rw [← hr]; exact .inl ⟨by omega, rfl⟩)
      have d0 : decide (0 ≤ z ∧ z ≤ 1000000000000) = false := by simp; omega
      rw [h] at HC
      clear hr hn h hA
      go_enter Try.func23, Try.ntmps23
      go_wp2_with fail
      refine HC.out.mono ?_
      rintro e w1 ⟨rfl, hb1⟩
      go_wp2_with (first | (go_at_call 51; refine (within_any _ _ _ _).mono ?_; rintro e w' ⟨rfl, rfl⟩) | fail)
      go_ret2
      exact ⟨⟨_, _, rfl, HR.out⟩, hb1⟩
    · have d0 : decide (0 ≤ z ∧ z ≤ 1000000000000) = true := by simp; omega
      by_cases h1 : l.length = 1
      · have hr : ckN l z = 11 := by unfold ckN; rw [if_neg (by simpa using h), if_neg hn, if_pos h1]
        have HR : Hid (TickR l z (0, 11)) := Lib.hid (by rw [← hr]; exact .inl ⟨by omega, rfl⟩)
        have d1 : ((l.length : Int) == 1) = true := by rw [beq_iff_eq]; omega
        rw [h] at HC
        clear hr hn h hA h1
        go_enter Try.func23, Try.ntmps23
        go_wp2_with fail
        refine HC.out.mono ?_
        rintro e w1 ⟨rfl, hb1⟩
        go_wp2_with (first | (go_at_call 51; refine (within_any _ _ _ _).mono ?_; rintro e w' ⟨rfl, rfl⟩) | fail)
        go_ret2
        exact ⟨⟨_, _, rfl, HR.out⟩, hb1⟩
      · have hr : ckN l z = 0 := by unfold ckN; rw [if_neg (by simpa using h), if_neg hn, if_neg h1]
        obtain ⟨-, hn2, hg⟩ := ckN_ok hr
        have d1 : ((l.length : Int) == 1) = false := beq_eq_false_iff_ne.2 (by omega)
        have HL := Lib.hid (fun (w1 : World) (hb : Below w.heap.size w w1) (n : Int) (hn : 0 ≤ n ∧ n ≤ 1000000000000) => timeAt_any A c l n w1 ((hA.below hb).lift hb.size) hg hn)
        rw [h] at HC
        have HG := Lib.hid hg
        have HCK := Lib.hid hr
        clear hr hn h hA h1 hg
        have hzz := hn2
        obtain ⟨z0, z1⟩ := hn2
        go_enter Try.func23, Try.ntmps23
        go_wp2_with fail
        refine HC.out.mono ?_
        rintro e w1 ⟨rfl, hb1⟩
        go_wp2_with (first | (go_at_call 51; refine (within_any _ _ _ _).mono ?_; rintro e w' ⟨rfl, rfl⟩) | fail)
        refine (HL.out _ hb1 1000000000000 (by omega)).mono ?_
        rintro e w3 ⟨⟨v, x, rfl, hnear, htp⟩, hb3⟩
        have hb2 : Below w.heap.size w w3 := hb1.trans (hb3.mono hb1.size)
        have hge := near_ge hnear hzz
        clear hb3 hnear
        by_cases hx : x < z
        · have HI : Hid (TickR l z (0, 1)) := Lib.hid (.inr ⟨HCK.out, .inr ⟨rfl, fun y hy => by rw [TimeP.unique HG.out.2.2.2 hy htp]; exact hx⟩⟩)
          have e0 : decide (v < z) = true := by simp; omega
          clear htp hge hx
          go_wp2_with fail
          go_ret2
          exact ⟨⟨_, _, rfl, HI.out⟩, hb2⟩
        · have HTOP : Hid (∀ y, TimeP l 1000000000000 y → z ≤ y) := Lib.hid fun y hy => by rw [TimeP.unique HG.out.2.2.2 hy htp]; omega
          have e0 : decide (v < z) = false := by simp; omega
          clear htp hge hx
          go_wp2_with fail
          go_loopw [7, 8] (fun a b wr => RTickAt l z w a b wr) (fun a b _ => (intOf b - intOf a).toNat)
          case atStart => exact ⟨0, 1000000000000, rfl, rfl, by omega, by omega, by omega, .inl rfl, HTOP.out, hb2⟩
          case round =>
            obtain ⟨i, j, rfl, rfl, hi0, hij, hj, hlow, hhigh, hb⟩ := hrel
            have HLOW := Lib.hid hlow
            have HHI := Lib.hid hhigh
            clear hlow hhigh
            by_cases hlt : i < j
            · obtain ⟨m, hm⟩ : ∃ m, m = (i + j) / 2 := ⟨_, rfl⟩
              have hm1 : i ≤ m := by omega
              have hm2 : m < j := by omega
              have w5 : IntKind.i64.wrap (i + j) = i + j := IntWalk.i64_in _ (by omega)
              have w6 : (i + j).tdiv 2 = m := by rw [Int.tdiv_eq_ediv_of_nonneg (by omega)]; exact hm.symm
              have w7 : (i + j) / 2 = m := hm.symm
              have w8 : IntKind.i64.wrap m = m := IntWalk.i64_in _ (by omega)
              clear hm
              go_wp2_with fail
              refine (HL.out _ hb m (by omega)).mono ?_
              rintro e w4 ⟨⟨v, x, rfl, hnear, htp⟩, hb4⟩
              have hb5 := hb.trans (hb4.mono hb.size)
              have hge := near_ge hnear hzz
              by_cases hx : z ≤ x
              · have t1 : decide (z ≤ v) = true := by simp; omega
                have HM : Hid (∀ y, TimeP l m y → z ≤ y) := Lib.hid fun y hy => by rw [TimeP.unique HG.out.2.2.2 hy htp]; exact hx
                clear hnear htp hb4 hge hx
                go_wp2_with fail
                go_roundw
                case rel => exact ⟨i, m, rfl, rfl, hi0, hm1, by omega, HLOW.out, HM.out, hb5⟩
                case measure => simp [intOf]; omega
              · have t1 : decide (z ≤ v) = false := by simp; omega
                have HM : Hid (∀ y, TimeP l m y → y < z) := Lib.hid fun y hy => by rw [TimeP.unique HG.out.2.2.2 hy htp]; omega
                have w9 : IntKind.i64.wrap (m + 1) = m + 1 := IntWalk.i64_in _ (by omega)
                clear hnear htp hb4 hge hx
                go_wp2_with fail
                go_roundw
                case rel => exact ⟨m + 1, j, rfl, rfl, by omega, by omega, hj, .inr (by rw [Int.add_sub_cancel]; exact HM.out), HHI.out, hb5⟩
                case measure => simp [intOf]; omega
            · obtain rfl : i = j := by omega
              have HI : Hid (TickR l z (i, 0)) := Lib.hid (.inr ⟨HCK.out, .inl ⟨i, rfl, hi0, hj, HHI.out, HLOW.out⟩⟩)
              go_wp2_with fail
              go_ret2
              exact ⟨⟨_, _, rfl, HI.out⟩, hb⟩
  · have hr : ckN l z = ckM l := by unfold ckN; rw [if_pos h]
    have HR : Hid (TickR l z (0, ckM l)) := Lib.hid (by rw [← hr]; exact .inl ⟨by rw [hr]; exact h, rfl⟩)
    have hne : (ckM l != 0) = true := by simpa using h
    generalize ckM l = r at *
    clear h hA hr
    go_enter Try.func23, Try.ntmps23
    go_wp2_with fail
    refine HC.out.mono ?_
    rintro e w1 ⟨rfl, hb1⟩
    go_wp2_with fail
    go_ret2
    exact ⟨⟨_, _, rfl, HR.out⟩, hb1⟩
end Go.Proofs.Ytdcnpbdkhcdinaa
