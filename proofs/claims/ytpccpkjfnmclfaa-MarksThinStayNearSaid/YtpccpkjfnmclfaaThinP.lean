/- Thin of the program. -/
import Derived.Test.YtpccpkjfnmclfaaFar
import Derived.Test.YtpccpkjfnmclfaaTimeOf
import Derived.Test.YtpccpkjfnmclfaaOwnMarks
import Derived.Test.YtpccpkjfnmclfaaThinTime
namespace Go.Proofs.Ytpccpkjfnmclfaa
open Go.RowKit

theorem mcells_drop : ∀ (k : Nat) (l : List Mk), (mcells l).drop (k * 3) = mcells (l.drop k)
  | 0, l => by simp
  | k + 1, [] => by simp [mcells]
  | k + 1, x :: l => by
    have e : mcells (x :: l) = .int .i64 x.t :: .int .i64 x.z :: .int .i64 x.o :: mcells l := by simp [mcells, Mk.cells]
    rw [e, show (k + 1) * 3 = k * 3 + 1 + 1 + 1 by omega, List.drop_succ_cons, List.drop_succ_cons, List.drop_succ_cons, List.drop_succ_cons]
    exact mcells_drop k l
theorem MR.cut {w : World} {B : Nat} {A : Option Addr} {l : List Mk} (h : MR w B A l) (k : Nat) (hk : k < l.length) : ∃ ad, A = some ad ∧ MR w B (some (ad.add (k * 3))) (l.drop k) := by
  obtain ⟨ad, e, hc⟩ := Cells.tail h (k * 3) (by rw [mcells_len]; omega)
  refine ⟨ad, e, ?_⟩
  unfold MR
  rw [← mcells_drop]
  exact hc
theorem Sorted.drop {l : List Mk} (h : Sorted l) (k : Nat) : Sorted (l.drop k) := fun i hi => by
  have := h (k + i) (by simp at hi; omega)
  simpa [Nat.add_assoc] using this
/-- the fault of Thin -/
def thinF (l : List Mk) (most : Int) : Int := if ckM l ≠ 0 then ckM l else if 0 ≤ most ∧ most ≤ 1000000000 then 0 else 1
/-- what Thin keeps -/
def thinR (l : List Mk) (most : Int) : List Mk := if thinF l most = 0 then (match l with | [] => [] | a :: r => a :: thinG most.toNat r.length (a :: r)) else []
def ThinPost (l : List Mk) (most : Int) (w : World) (e : Ending) (w' : World) : Prop := ∃ v, e = .returned (.tuple #[v, .int .i64 (thinF l most)]) ∧ OwnM w' w.heap.size v (thinR l most) ∧ Below w.heap.size w w'
/-- the head of Thin's loop -/
def ThinAt (M : Nat) (l W : List Mk) (B : Nat) (w0 : World) (o i : Value) (wr : World) : Prop :=
  ∃ (j f : Nat) (P : List Mk), j < l.length ∧ (l.drop j).length ≤ f + 1 ∧ i = .int .i64 j ∧ OwnM wr B o P ∧ P.length ≤ j + 1 ∧ P ++ thinG M f (l.drop j) = W ∧ Below B w0 wr
set_option maxRecDepth 100000 in
set_option maxHeartbeats 4000000 in
theorem thin_any (A : Option Addr) (c : Nat) (l : List Mk) (most : Int) (w : World) (hl : l.length ≤ 9223372036854775807) (hlc : l.length ≤ c) (hA : MR w w.heap.size A l) :
    Calls Try.prog 15 #[.slice A l.length c, .int .i64 most] w (ThinPost l most w) := by
  have HC := Lib.hid (checkMarks_any A c l w hl hA)
  unfold ThinPost
  by_cases hck : ckM l = 0
  · by_cases hm : 0 ≤ most ∧ most ≤ 1000000000
    · obtain ⟨M, rfl⟩ : ∃ M : Nat, most = M := ⟨most.toNat, by omega⟩
      obtain ⟨g0, g2, g2', g3⟩ := ckM_ok l hck
      have hf : thinF l (M : Int) = 0 := by unfold thinF; rw [if_neg (by omega), if_pos hm]
      have hr : ∃ a r, l = a :: r ∧ thinR l (M : Int) = a :: thinG M r.length (a :: r) := by
        match l, g0 with
        | a :: r, _ => exact ⟨a, r, rfl, by unfold thinR; rw [if_pos hf]; simp⟩
      obtain ⟨a, r, he, hW⟩ := hr
      rw [hf]
      rw [hck] at HC
      obtain ⟨W, hWW⟩ : ∃ W, W = thinR l (M : Int) := ⟨_, rfl⟩
      rw [← hWW] at hW ⊢
      have HU := Lib.hid (upTo_any (M : Int) 1000000000)
      rw [decide_eq_true hm] at HU
      have HA := Lib.hid hA
      have HW := Lib.hid hW
      have HE := Lib.hid he
      have HG2 := Lib.hid g2
      have HG3 := Lib.hid (show (∀ x ∈ l, x.ok) ∧ Sorted l from ⟨g2', g3⟩)
      clear hf hA hWW hck hW he g2 g2' g3
      obtain ⟨m1, m2⟩ := hm
      have hM : M ≤ 1000000000 := by omega
      go_enter Try.func15, Try.ntmps15
      go_wp2_with fail
      refine HC.out.mono ?_
      rintro e w1 ⟨rfl, hb1⟩
      go_wp2_with fail
      refine (HU.out _).mono ?_
      rintro e w' ⟨rfl, rfl⟩
      have hz1 := hb1.size
      obtain ⟨ad, hadd, hbk, c0, c1, c2⟩ := (HA.out.below hb1).get 0 g0
      subst hadd
      rw [Nat.zero_mul, addr_zero] at c0 c1 c2
      have h0a : l[0] = a := by have := HE.out; simp [this]
      rw [h0a] at c0 c1 c2
      clear h0a
      have i0 : (0 : Int) < (l.length : Int) := by omega
      go_wp2_with fail
      go_loopw [7, 8] (fun o i wr => ThinAt M l W w.heap.size w o i wr) (fun _ i _ => l.length - (intOf i).toNat)
      case atStart =>
        refine ⟨0, r.length, [a], g0, by have := HE.out; simp [this], rfl, ?_, by simp, ?_, hb1.alloc hz1 _⟩
        · exact World.ownsRow_lit (e := 36) (size := 3) w1 #[.int .i64 a.t, .int .i64 a.z, .int .i64 a.o] 1 hz1 (by simp [maxLen]) rfl
        · rw [HW.out, List.drop_zero, ← HE.out]; rfl
      case round =>
        obtain ⟨j, f, P, hj, hf, rfl, hO, hPl, hP, hb⟩ := hrel
        have hzr := hb.size
        by_cases hlt : j + 1 < l.length
        · obtain ⟨f, rfl⟩ : ∃ f', f = f' + 1 := ⟨f - 1, by simp at hf; omega⟩
          have hd := mdrop_one l j hj
          have hfl := farI_lt M (l.drop j) (by simp; omega)
          obtain ⟨n, hn⟩ : ∃ n, farI M (l.drop j) = n + 1 := ⟨farI M (l.drop j) - 1, by omega⟩
          rw [hn] at hfl
          have hnl : n < (l.drop (j + 1)).length := by simp at hfl ⊢; omega
          have hst := thinG_step M f l[j] (l.drop (j + 1)) n (by rw [← hd]; exact hn) hnl
          obtain ⟨J, hJ⟩ : ∃ J, J = j + (n + 1) := ⟨_, rfl⟩
          have hJl : J < l.length := by simp at hfl; omega
          have hx : (l.drop (j + 1))[n] = l[J] := by simp only [List.getElem_drop]; congr 1; omega
          have hdJ : l[J] :: (l.drop (j + 1)).drop (n + 1) = l.drop J := by rw [mdrop_one l J hJl, List.drop_drop]; congr 2; omega
          rw [← hd, hx, hdJ] at hst
          have hAr := HA.out.below hb
          obtain ⟨ad', hadd', hcut⟩ := hAr.cut j hj
          obtain rfl : ad = ad' := by injection hadd'
          have hFA := farthest_any l[j] (l.drop (j + 1)) (some (ad.add (j * 3))) (c - j) M wr (by simp; omega) (by simp; have := HG2.out; omega) (by simp; omega) (by rw [← hd]; exact fun x hx => (HG3.out.1 x (List.mem_of_mem_drop hx))) (by rw [← hd]; exact HG3.out.2.drop j) hM (by rw [← hd]; exact hcut.lift hzr)
          rw [← hd, hn, show (l.drop j).length = l.length - j by simp] at hFA
          have HFA := Lib.hid hFA
          have HST := Lib.hid hst
          have HP := Lib.hid hP
          have HJ := Lib.hid hJ
          have HF := Lib.hid hf
          clear hFA hst hP hJ hf hd hfl hn hx hdJ hadd' hcut hAr
          go_wp2_with fail
          refine HFA.out.mono ?_
          rintro e w2 ⟨rfl, hb2⟩
          have hb3 := hb.trans (hb2.mono hzr)
          have hO2 := hO.after hb2 (Nat.le_refl _)
          have hz2 := hb2.size
          obtain ⟨ad3, hadd3, -, d0, d1, d2⟩ := (HA.out.below hb3).get J hJl
          obtain rfl : ad = ad3 := by injection hadd3
          generalize l[J] = x at *
          obtain ⟨xt, xz, xo⟩ := x
          simp only at d0 d1 d2
          have HL1 : Hid (P.length + 1 ≤ maxLen) := Lib.hid (by have := HG2.out; unfold maxLen; omega)
          have HL2 : Hid ((P.length + 1) * 24 ≤ 140737488355328) := Lib.hid (by have := HG2.out; omega)
          have HL3 : Hid (w.heap.size ≤ w2.heap.size + 1) := Lib.hid (by omega)
          have HL4 : Hid (w.heap.size ≤ w2.heap.size) := Lib.hid (by omega)
          have HL5 : Hid (P.length + 1 ≤ J + 1) := Lib.hid (by have := HJ.out; omega)
          have HL6 : Hid ((l.drop J).length ≤ f + 1) := Lib.hid (by rw [List.length_drop]; have h1 := HF.out; rw [List.length_drop] at h1; have := HJ.out; omega)
          have HL7 : Hid (l.length - J < l.length - j) := Lib.hid (by have := HJ.out; omega)
          have hJi : (J : Int) < (l.length : Int) := by omega
          have hJ0 : (0 : Int) ≤ (J : Int) := by omega
          have HJ4 : Hid ((j : Int) + ((n + 1 : Nat) : Int) = (J : Int)) := Lib.hid (by have := HJ.out; omega)
          have hjr : -9223372036854775808 ≤ (J : Int) ∧ (J : Int) ≤ 9223372036854775807 := by have := HG2.out; omega
          have hj5 : wrap64 (J : Int) = (J : Int) := IntWalk.wrap64_in _ hjr
          have hj6 : IntKind.i64.wrap (J : Int) = (J : Int) := IntWalk.i64_in _ hjr
          have hj7 : wrap64 ((j : Int) + ((n + 1 : Nat) : Int)) = (J : Int) := by rw [HJ4.out]; exact hj5
          have hj8 : IntKind.i64.wrap ((j : Int) + ((n + 1 : Nat) : Int)) = (J : Int) := by rw [HJ4.out]; exact hj6
          clear hjr hadd3 hb2
          obtain ⟨N, hN⟩ : ∃ N : Nat, N = n + 1 := ⟨_, rfl⟩
          rw [← hN] at hj7 hj8 ⊢
          have HJE : Hid (J = j + N) := Lib.hid (by rw [hN]; exact HJ.out)
          have hlB := fun k (e : u7.ownBlock = some k) => (World.ownsRow.lt hO2 k e).1
          have HLB := Lib.hid hlB
          have HO2 := Lib.hid hO2
          clear hN hlB hO2 hO HJ HJ4
          go_wp2_with (first
            | (at_builtin; refine wpList_app _ rfl (.tmp 33) (.tmp 38) 30 36 3 24 rfl elemM w.heap.size u7 P.length (mcells P) rfl (World.ownsRow.alloc HO2.out _) (w2.heap.size + 1) _ 1 1 (mcells [⟨xt, xz, xo⟩]) rfl rfl (Cells.fresh' w2 (mcells [⟨xt, xz, xo⟩]) 36 (0, 0) _ rfl) (mcells_one _) HL1.out HL2.out (by rw [World.size_alloc]; exact HL3.out) ?_; intro v7 w7 hown7 hgrow7 hat7)
            | fail)
          go_roundw
          case rel =>
            have hd2 := (hb3.alloc HL4.out (.cells #[.int .i64 xt, .int .i64 xz, .int .i64 xo] 36)).grown hgrow7 (by rw [World.size_alloc]; exact HL3.out) (fun k hk => HLB.out k hk)
            refine ⟨J, f, P ++ [⟨xt, xz, xo⟩], hJl, HL6.out, by first | rfl | rw [hj7], OwnM.of hown7 rfl, by rw [List.length_append]; exact HL5.out, ?_, hd2⟩
            rw [← HP.out, HST.out, List.append_assoc]
            rfl
          case measure => first | exact HL7.out | (simp only [hj7, intOf, Int.toNat_natCast]; exact HL7.out)
        · have hdl : (l.drop j).length = 1 := by simp; omega
          have hPW : P = W := by
            rw [← hP]
            have : thinG M f (l.drop j) = [] := by
              cases f with
              | zero => rfl
              | succ f => unfold thinG; rw [if_neg (by omega)]
            rw [this, List.append_nil]
          subst hPW
          have HO := Lib.hid hO
          clear hO hP hf hdl
          have i1 : ¬ (j : Int) < (l.length : Int) - 1 := by omega
          go_wp2_with fail
          go_ret2
          exact ⟨_, rfl, HO.out, hb⟩
    · have hf : thinF l most = 1 := by unfold thinF; rw [if_neg (by omega), if_neg hm]
      have hr : thinR l most = [] := by unfold thinR; rw [if_neg (by omega)]
      rw [hf, hr]
      rw [hck] at HC
      have HU := Lib.hid (upTo_any most 1000000000)
      rw [decide_eq_false hm] at HU
      clear hf hr hA hck hm
      go_enter Try.func15, Try.ntmps15
      go_wp2_with fail
      refine HC.out.mono ?_
      rintro e w1 ⟨rfl, hb1⟩
      go_wp2_with fail
      refine (HU.out _).mono ?_
      rintro e w' ⟨rfl, rfl⟩
      go_wp2_with fail
      go_ret2
      exact ⟨_, rfl, OwnM.nil _ _, hb1⟩
  · have hf : thinF l most = ckM l := by unfold thinF; rw [if_pos hck]
    have hr : thinR l most = [] := by unfold thinR; rw [if_neg (by omega)]
    rw [hf, hr]
    generalize ckM l = F at *
    have dq : (F != 0) = true := by simpa using hck
    clear hf hr hA hck
    go_enter Try.func15, Try.ntmps15
    go_wp2_with fail
    refine HC.out.mono ?_
    rintro e w1 ⟨rfl, hb1⟩
    go_wp2_with fail
    go_ret2
    exact ⟨_, rfl, OwnM.nil _ _, hb1⟩
end Go.Proofs.Ytpccpkjfnmclfaa
