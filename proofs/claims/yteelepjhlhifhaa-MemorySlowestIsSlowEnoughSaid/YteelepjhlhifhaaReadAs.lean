/- whether codes are read as right ones are: the walk of readAs; a copy into a row of the call's own. -/
import Derived.Test.YteelepjhlhifhaaSlowChk
import Derived.Test.YteelepjhlhifhaaScrubW
import Derived.Laws.CopyOwn
namespace Go.Proofs.Yteelepjhlhifhaa
open Go.RowKit

/-- the first k codes are near the right ones -/
def nearT (C R : List Nat) : Nat → Bool
  | 0 => true
  | k + 1 => nearT C R k && nearN (C.getD k 0) (R.getD k 0)
theorem nearT_false (C R : List Nat) (k : Nat) (h : nearN (C.getD k 0) (R.getD k 0) = false) : ∀ n, k < n → nearT C R n = false
  | 0, q => by omega
  | n + 1, q => by
    unfold nearT
    by_cases e : k = n
    · subst e; rw [h]; simp
    · rw [nearT_false C R k h n (by omega)]; rfl
theorem near_and (d : Nat) (hd : d < 4194304) : bits .and .i64 (d : Int) ((d : Int) - 1) = ((d &&& (d - 1) : Nat) : Int) := by
  by_cases h : d = 0
  · subst h; decide
  · rw [show (d : Int) - 1 = ((d - 1 : Nat) : Int) by omega]
    exact and64 _ _ (by omega) (by omega)
theorem near_test (c r : Nat) : (((((c ^^^ r) &&& ((c ^^^ r) - 1) : Nat) : Int)) != 0) = !nearN c r := by
  unfold nearN
  by_cases h : (c ^^^ r) &&& ((c ^^^ r) - 1) = 0
  · rw [h]; rfl
  · rw [decide_eq_false h]; simp; omega
set_option maxRecDepth 100000 in
set_option maxHeartbeats 1000000 in
theorem readAs_any (A A' : Option Addr) (k k' : Nat) (C R : List Nat) (B : Nat) (w : World) (hl : C.length ≤ 2000) (hRl : R.length = C.length) (hC : ∀ j (h : j < C.length), C[j] < 4194304) (hR : ∀ j (h : j < R.length), R[j] < 4194304) (h : IR w B A (ints C)) (h' : IR w B A' (ints R)) :
    Calls Try.prog 79 #[.slice A C.length k, .slice A' C.length k'] w fun e w' => e = .returned (.bool (nearT C R C.length)) ∧ w = w' := by
  have HRL := Lib.hid hRl
  clear hRl
  go_enter Try.func79, Try.ntmps79
  go_wp2_with fail
  go_loop [5, 6, 7, 10] (fun _ _ _ i => ∃ j : Nat, j ≤ C.length ∧ i = .int .i64 (j : Int) ∧ nearT C R j = true) (fun _ _ _ i => C.length - (intOf i).toNat)
  case atStart => exact ⟨0, Nat.zero_le _, rfl, rfl⟩
  case round =>
    obtain ⟨j, hj, rfl, hall⟩ := hrel
    by_cases hlt : j < C.length
    · obtain ⟨ad, hA, hbk, hc⟩ := h.get j (by rw [ints_len]; exact hlt)
      obtain ⟨ad', hA', hbk', hc'⟩ := h'.get j (by rw [ints_len, HRL.out]; exact hlt)
      rw [ints_get C j hlt] at hc
      rw [ints_get R j (by rw [HRL.out]; exact hlt)] at hc'
      have hx := hC j hlt
      have hy := hR j (by rw [HRL.out]; exact hlt)
      have g1 : C.getD j 0 = C[j] := by simp [List.getD, hlt]
      have g2 : R.getD j 0 = R[j]'(by rw [HRL.out]; exact hlt) := by simp [List.getD, show j < R.length by rw [HRL.out]; exact hlt]
      have HS := Lib.hid (show nearT C R (j + 1) = (nearT C R j && nearN (C.getD j 0) (R.getD j 0)) from rfl)
      have HF := Lib.hid (fun q => nearT_false C R j q C.length hlt)
      rw [g1, g2] at HS HF
      rw [hall] at HS
      clear hall g1 g2
      subst hA hA'
      have hk0 : (0 : Int) ≤ (j : Int) := Int.natCast_nonneg _
      have hk1 : (j : Int) < (C.length : Int) := by omega
      generalize C[j] = x at *
      generalize R[j]'(by rw [HRL.out]; exact hlt) = y at *
      have hd : x ^^^ y < 4194304 := Nat.xor_lt_two_pow (n := 22) hx hy
      have e1 := xor64 x y (by omega) (by omega)
      have e2 := near_and (x ^^^ y) hd
      have HT := Lib.hid (near_test x y)
      generalize x ^^^ y = d at *
      by_cases hn : nearN x y = true
      · have e3 : ((((d &&& (d - 1) : Nat) : Int)) != 0) = false := by rw [HT.out, hn]; rfl
        have HN : Hid (nearT C R (j + 1) = true) := Lib.hid (by rw [HS.out, hn]; rfl)
        clear hn HS HF
        go_wp2_with fail
        go_round
        case rel => exact ⟨j + 1, by omega, by go_num, HN.out⟩
        case measure => simp [intOf]; omega
      · have hn' : nearN x y = false := by simpa using hn
        have e3 : ((((d &&& (d - 1) : Nat) : Int)) != 0) = true := by rw [HT.out, hn']; rfl
        have HN := Lib.hid (HF.out hn')
        clear hn hn' HS HF
        go_wp2_with fail
        go_ret
        exact ⟨ret_bool HN.out.symm, rfl⟩
    · obtain rfl : j = C.length := by omega
      have HN := Lib.hid hall
      clear hall
      go_wp2_with fail
      go_ret
      exact ⟨ret_bool HN.out.symm, rfl⟩

theorem readAs_len (A A' : Option Addr) (k k' n n' : Nat) (C R : List Nat) (B : Nat) (w : World) (hn : C.length = n) (hn' : R.length = n') (hl : n ≤ 2000) (hRl : n' = n) (hC : ∀ j (h : j < C.length), C[j] < 4194304) (hR : ∀ j (h : j < R.length), R[j] < 4194304) (h : IR w B A (ints C)) (h' : IR w B A' (ints R)) :
    Calls Try.prog 79 #[.slice A n k, .slice A' n' k'] w fun e w' => e = .returned (.bool (nearT C R n)) ∧ w = w' := by
  subst hn hn'
  rw [hRl]
  exact readAs_any A A' k k' C R B w hl hRl hC hR h h'
theorem wpList_copy_row {ops : Array Oper} {rest : List Oper} {o : Oper} {a : Act} {Q : Exit → Act → World → Prop} (w : World) (hgd : o.guard = none) (d s : Operand)
    (ho : o.op = .call { callee := .builtin .copy, args := #[d, s], argTypes := #[22, 22] }) (g n cap sCap B : Nat) (A : Option Addr) (l' l : List Int)
    (hd : a.eval d = .slice (some ⟨g, 0, none⟩) n cap) (hs : a.eval s = .slice A n sCap) (hrow : RowAt w g cap l') (hl' : l'.length = n) (hl : l.length = n) (hn : 0 < n) (hA : IR w B A l)
    (h : ∀ w', RowAt w' g cap l → (∀ B, Kept B g w w') → wpList Try.prog ops Q rest (a.put o.dst (.int .i64 (n : Int))) w') : wpList Try.prog ops Q (o :: rest) a w := by
  obtain ⟨ad, rfl, hbk, -⟩ := hA.get 0 (by omega)
  obtain ⟨cur, h1, h2, h3, h4, h5⟩ := hrow
  have hsrc : ∀ j v, (l.map iv)[j]? = some v → w.cell? (ad.add j) = some v := by
    rcases hA with e | ⟨ad', e, _, q⟩
    · simp at e; subst e; simp at hl; omega
    · obtain rfl : ad = ad' := by injection e
      exact q
  refine wpList_copy_own hgd d s _ _ ho 3 Try.underlying22 (by kernel_rfl) g 0 n cap ad n sCap hd hs cur 3 h1 (l.map iv) (by simp [hl]) hsrc (by simp; omega) (iv_one l) ?_
  have e : goInt ((l.map iv).length) = .int .i64 (n : Int) := by simp [goInt, hl]
  rw [e]
  refine h _ ⟨_, setRow_heap w g cur _ 3 _ h1, by omega, h3, ?_, ?_⟩ fun B => ⟨rfl, rfl, rfl, by simp [World.setRow], fun j _ hj => setRow_other w g j _ hj⟩
  · simp; omega
  · simp [hl]
end Go.Proofs.Yteelepjhlhifhaa
