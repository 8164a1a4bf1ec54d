/- plain mathematics of the law on thinned marks; slices.Contains of marks. -/
import Derived.Test.YtpccpkjfnmclfaaThinP
import Derived.Laws.StructEq
namespace Go.Proofs.Ytpccpkjfnmclfaa
open Go.RowKit

theorem ckL_of : ∀ (l : List Mk) (p : Option Mk), (∀ x ∈ l, x.ok) → (∀ q, p = some q → ∀ x, l.head? = some x → q.lt x) → Sorted l → ckL p l = 0
  | [], p, _, _, _ => by cases p <;> rfl
  | x :: xs, p, ho, hp, hs => by
    have hx := ho x (by simp)
    have ih := ckL_of xs (some x) (fun y hy => ho y (by simp [hy])) (fun q hq y hy => by
      injection hq with hq
      subst hq
      match xs, hy with
      | z :: zs, hy =>
        simp only [List.head?_cons, Option.some.injEq] at hy
        subst hy
        exact hs 0 (by simp)) (fun i hi => hs (i + 1) (by simp; omega))
    cases p with
    | none => rw [ckL_first x xs hx, ih]
    | some q => rw [ckL_next q x xs hx (hp q rfl x rfl), ih]
theorem ckM_of {l : List Mk} (h0 : 0 < l.length) (h2 : l.length ≤ 2000) (ho : ∀ x ∈ l, x.ok) (hs : Sorted l) : ckM l = 0 := by
  unfold ckM
  rw [if_neg (by omega), if_neg (by omega)]
  exact ckL_of l none ho (by simp) hs
theorem thinF_ok {l : List Mk} {most : Int} (h : thinF l most = 0) : ckM l = 0 ∧ 0 ≤ most ∧ most ≤ 1000000000 := by
  unfold thinF at h
  split at h
  · rename_i h1; exact absurd h h1
  · rename_i h1
    split at h
    · rename_i h2; exact ⟨by omega, h2⟩
    · simp at h
theorem thinR_ok {l : List Mk} {most : Int} (h : thinF l most = 0) : ∃ (a : Mk) (r : List Mk), l = a :: r ∧ thinR l most = a :: thinG most.toNat r.length (a :: r) := by
  obtain ⟨h1, -⟩ := thinF_ok h
  obtain ⟨h0, -⟩ := ckM_ok l h1
  match l, h0 with
  | a :: r, _ => exact ⟨a, r, rfl, by unfold thinR; rw [if_pos h]⟩
theorem thinR_facts {l : List Mk} {most : Int} (h : thinF l most = 0) : 0 < (thinR l most).length ∧ (thinR l most).length ≤ l.length ∧ (∀ y ∈ thinR l most, y ∈ l) ∧ (thinR l most)[0]? = l[0]? ∧ (thinR l most)[(thinR l most).length - 1]? = l[l.length - 1]? ∧ Sorted (thinR l most) ∧ ckM (thinR l most) = 0 := by
  obtain ⟨h1, -⟩ := thinF_ok h
  obtain ⟨h0, h2, ho, hs⟩ := ckM_ok l h1
  obtain ⟨a, r, rfl, he⟩ := thinR_ok h
  have hsub := (thin_sub most.toNat r.length a r).cons_cons a
  have hso : Sorted (a :: thinG most.toNat r.length (a :: r)) := thin_sorted hs
  obtain ⟨q1, q2, q3⟩ := thin_all most.toNat r.length a r (Nat.le_refl _) (sorted_rise hs)
  rw [he]
  have hle := hsub.length_le
  refine ⟨by simp, hle, fun y hy => hsub.subset hy, rfl, ?_, hso, ckM_of (by simp) (by omega) (fun y hy => ho y (hsub.subset hy)) hso⟩
  rw [← List.getLast?_eq_getElem?, ← List.getLast?_eq_getElem?]
  exact q2
theorem thinR_time {l : List Mk} {most : Int} (h : thinF l most = 0) (h2 : 2 ≤ (thinR l most).length) (k : Nat) (hk : k < l.length) {t F : Int} (ht : TimeR (thinR l most) l[k].t (t, F)) : F = 0 ∧ l[k].z - most ≤ t ∧ t ≤ l[k].z + most := by
  obtain ⟨h1, hm0, hm1⟩ := thinF_ok h
  obtain ⟨h0, hl2, ho, hs⟩ := ckM_ok l h1
  obtain ⟨f0, f1, f2, f3, f4, f5, f6⟩ := thinR_facts h
  obtain ⟨a, r, rfl, he⟩ := thinR_ok h
  have hmo : ((most.toNat : Nat) : Int) = most := by omega
  obtain ⟨q1, q2, q3⟩ := thin_all most.toNat r.length a r (Nat.le_refl _) (sorted_rise hs)
  have hr0 : 0 < r.length := by rw [he] at h2 f1; simp at h2 f1; omega
  have hbt := (q3 hr0).2 _ (List.getElem_mem hk)
  have hok := ho _ (List.getElem_mem hk)
  have hckN : ckN (thinR (a :: r) most) (a :: r)[k].t = 0 := by
    unfold ckN
    unfold Mk.ok at hok
    rw [if_neg (by omega), if_neg (by omega), if_neg (by omega)]
  rcases ht with ⟨e, -⟩ | ⟨-, x, hx, e⟩
  · exact absurd hckN e
  · have hb := between_time (M := most.toNat) (by rw [← he]; exact f5) hbt (by rw [← he]; exact hx)
    rw [hmo] at hb
    -- the first and the last mark hold it within the range
    have htp : ∀ i (hi : i < (thinR (a :: r) most).length), TimeP (thinR (a :: r) most) (thinR (a :: r) most)[i].t (thinR (a :: r) most)[i].z := fun i hi => by
      obtain ⟨j, hj⟩ := seg_exists f5 (thinR (a :: r) most)[i].t h2 0 (by omega) (.inl rfl)
      have : TimeP (thinR (a :: r) most) (thinR (a :: r) most)[i].t _ := ⟨j, hj, rfl⟩
      have e := TimeP.mark f5 hi this
      rw [e] at this
      exact this
    have hfe : (thinR (a :: r) most)[0] = a := by simp [he]
    have hll : (thinR (a :: r) most)[(thinR (a :: r) most).length - 1]'(by omega) = (a :: r)[(a :: r).length - 1]'(by simp) := by
      have := f4
      rw [List.getElem?_eq_getElem (by omega), List.getElem?_eq_getElem (by simp)] at this
      exact Option.some.inj this
    have t0 := htp 0 (by omega)
    have t1 := htp ((thinR (a :: r) most).length - 1) (by omega)
    have hs2 : Sorted (a :: r) := hs
    have le0 := hs2.le 0 k hk (by omega)
    have le1 := hs2.le k ((a :: r).length - 1) (by simp) (by simp at hk ⊢; omega)
    have g0 := TimeP.mono f5 t0 hx (by rw [hfe]; exact le0.1)
    have g1 := TimeP.mono f5 hx t1 (by rw [hll]; exact le1.1)
    have o0 := ho a (by simp)
    have o1 := ho _ (List.getElem_mem (show (a :: r).length - 1 < (a :: r).length by simp))
    rw [hfe] at g0
    rw [hll] at g1
    unfold Mk.ok at o0 o1
    rw [if_pos (by omega)] at e
    injection e with e1 e2
    subst e1 e2
    exact ⟨rfl, hb⟩
/-- two marks are the same -/
def mkB (x y : Mk) : Bool := x.t == y.t && (x.z == y.z && x.o == y.o)
theorem mkB_self (x : Mk) : mkB x x = true := by simp [mkB]
theorem mkB_no {x y : Mk} (h : x ≠ y) : mkB x y = false := by
  obtain ⟨a, b, c⟩ := x
  obtain ⟨a', b', c'⟩ := y
  simp [mkB] at h ⊢
  exact h
theorem eqMk (x y : Mk) (w : World) : (Op.equalIn 10000 36 (mv x) (mv y)).run Try.prog w = .ok (mkB x y) w := by
  have u3 := Try.underlying3
  have hS : Try.prog.underlying 36 = some (.struct (Try.prog.fieldsOf 36)) := by kernel_rfl
  have hp : Try.prog.stoodInHeld 36 = false := by kernel_rfl
  unfold mv mkB
  rw [show (10000 : Nat) = 9999 + 1 from rfl, run_equalIn_agg w 9999 36 _ _ hS hp]
  simp only [Program.fieldsOf, Try.underlying36]
  go_simp
  by_cases h1 : x.t = y.t <;> by_cases h2 : x.z = y.z <;> by_cases h3 : x.o = y.o <;> simp [h1, h2, h3]
def SomeNat (e : Ending) : Prop := ∃ n : Nat, e = .returned (.int .i64 n)
set_option maxRecDepth 100000 in
set_option maxHeartbeats 1000000 in
theorem index_yes (A : Option Addr) (c : Nat) (l : List Mk) (x : Mk) (w : World) (hl : l.length ≤ 9223372036854775807) (hx : x ∈ l) (hA : MR w w.heap.size A l) :
    Calls Try.prog 51 #[.slice A l.length c, mv x] w fun e w' => SomeNat e ∧ Below w.heap.size w w' := by
  obtain ⟨W, hW⟩ : ∃ W, W = w.alloc (.cells #[.int .i64 x.t, .int .i64 x.z, .int .i64 x.o] 36) := ⟨_, rfl⟩
  have HX := Lib.hid hx
  have hbW : Below w.heap.size w W := by rw [hW]; exact (Below.refl _ _).alloc (Nat.le_refl _) _
  have b0 : W.cell? ⟨w.heap.size, 0, none⟩ = some (.int .i64 x.t) := by rw [hW]; simp
  have b1 : W.cell? ⟨w.heap.size, 1, none⟩ = some (.int .i64 x.z) := by rw [hW]; simp
  have b2 : W.cell? ⟨w.heap.size, 2, none⟩ = some (.int .i64 x.o) := by rw [hW]; simp
  have HA := Lib.hid (hA.below hbW)
  have HW := Lib.hid hW
  clear hx hA hW
  obtain ⟨xt, xz, xo⟩ := x
  unfold mv
  simp only at b0 b1 b2 HW ⊢
  go_enter Try.func51, Try.ntmps51
  go_wp2_with fail
  rw [← HW.out]
  go_loopw [5, 8] (fun _ i wr => ∃ k d : Nat, k ≤ l.length ∧ i = .int .i64 k ∧ (∀ q (hq : q < l.length), q < k → l[q] ≠ ⟨xt, xz, xo⟩) ∧ wr = W.drewN d) (fun _ i _ => l.length - (intOf i).toNat)
  case atStart => exact ⟨0, 0, Nat.zero_le _, rfl, fun q _ h => absurd h (by omega), rfl⟩
  case round =>
    obtain ⟨k, d, hk, rfl, hno, rfl⟩ := hrel
    by_cases hlt : k < l.length
    · obtain ⟨ad, hadd, -, c0, c1, c2⟩ := HA.out.get k hlt
      subst hadd
      have i0 : (0 : Int) ≤ (k : Int) := by omega
      have i1 : (k : Int) < (l.length : Int) := by omega
      obtain ⟨y, hy⟩ : ∃ y, y = l[k] := ⟨_, rfl⟩
      rw [← hy] at c0 c1 c2
      have he := fun w => eqMk ⟨xt, xz, xo⟩ y w
      by_cases hxy : (⟨xt, xz, xo⟩ : Mk) = y
      · rw [hxy, mkB_self] at he
        subst hxy
        clear hno hy
        unfold mv at he
        simp only at he c0 c1 c2
        go_wp2_with fail
        go_quiet (fail)
        go_wp2_with fail
        go_ret
        exact ⟨⟨k, rfl⟩, below_draws (below_draws hbW _) _⟩
      · rw [mkB_no hxy] at he
        have HNO : Hid (∀ q (hq : q < l.length), q < k + 1 → l[q] ≠ ⟨xt, xz, xo⟩) := Lib.hid (fun q hq hqk => by
          by_cases hqe : q = k
          · subst hqe
            rw [← hy]
            exact fun e => hxy e.symm
          · exact hno q hq (by omega))
        obtain ⟨yt, yz, yo⟩ := y
        clear hno hy hxy
        unfold mv at he
        simp only at he c0 c1 c2
        go_wp2_with fail
        go_quiet (fail)
        go_wp2_with fail
        go_roundw
        case rel => exact ⟨k + 1, d + nq, by omega, by go_num, HNO.out, rfl⟩
        case measure => simp [intOf]; omega
    · obtain ⟨q, hq, hqx⟩ := List.getElem_of_mem HX.out
      exact absurd hqx (hno q hq (by omega))
set_option maxRecDepth 100000 in
set_option maxHeartbeats 1000000 in
theorem contains_yes (A : Option Addr) (c : Nat) (l : List Mk) (x : Mk) (w : World) (hl : l.length ≤ 9223372036854775807) (hx : x ∈ l) (hA : MR w w.heap.size A l) :
    Calls Try.prog 20 #[.slice A l.length c, mv x] w fun e w' => e = .returned (.bool true) ∧ Below w.heap.size w w' := by
  have hbW : Below w.heap.size w (w.alloc (.cells #[.int .i64 x.t, .int .i64 x.z, .int .i64 x.o] 36)) := (Below.refl _ _).alloc (Nat.le_refl _) _
  have HI := Lib.hid (index_yes A c l x (w.alloc (.cells #[.int .i64 x.t, .int .i64 x.z, .int .i64 x.o] 36)) hl hx ((hA.below hbW).lift hbW.size))
  clear hx hA
  obtain ⟨xt, xz, xo⟩ := x
  unfold mv at HI ⊢
  simp only at HI hbW ⊢
  go_enter Try.func20, Try.ntmps20
  go_wp2_with fail
  refine HI.out.mono ?_
  rintro e w1 ⟨⟨n, rfl⟩, hb1⟩
  have hn : (0 : Int) ≤ (n : Int) := by omega
  go_wp2_with fail
  go_ret
  exact ⟨rfl, hbW.trans (hb1.mono hbW.size)⟩
end Go.Proofs.Ytpccpkjfnmclfaa
