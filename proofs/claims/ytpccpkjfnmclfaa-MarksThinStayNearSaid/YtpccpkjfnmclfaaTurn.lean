/- the program's counters: turned, Unrolled, Rolled. -/
import Derived.Test.YtpccpkjfnmclfaaStep
import Derived.Test.YtpccpkjfnmclfaaAppend
namespace Go.Proofs.Ytpccpkjfnmclfaa
open Go.RowKit

theorem wrap_round (b : Int) (h4 : 4 ≤ b) (h40 : b ≤ 40) : wrap64 (2 ^ b.toNat) = roundOf b := by
  obtain ⟨hR1, hR2⟩ := roundOf_bd b h4 h40
  exact IntWalk.wrap64_in _ (by unfold roundOf at *; omega)
/-- the head of the program's loop -/
def TurnAt (step : Int → Int → Int × Int × Int) (l : List Int) (base p : Nat) (w : World) (v i : Value) (wr : World) : Prop :=
  ∃ (k : Nat) (t : Int) (acc : List Int), k ≤ l.length ∧ i = .int .i64 k ∧ OwnI wr base v acc ∧ acc.length = k ∧ Held1 wr p t ∧ 0 ≤ t ∧ t ≤ 1000000000000 ∧ w.grownBy wr (some p) ∧ turnG step t acc (l.drop k) = turnG step 0 [] l
set_option maxRecDepth 100000 in
set_option maxHeartbeats 1000000 in
theorem turned_any (f : FuncId) (hcf : ∀ args w, (callFunc f args).run Try.prog w = .ok (.enter f args) w) (step : Int → Int → Int → Int × Int × Int) (hstep : StepC f step) (hgood : ∀ R t x, 0 ≤ t → (step R t x).2.2 = 0 → 0 ≤ (step R t x).1 ∧ (step R t x).1 ≤ 1000000000000)
    (A : Option Addr) (c : Nat) (l : List Int) (b : Int) (p : Nat) (w : World) (hl : l.length ≤ 9223372036854775807) (hA : IR w p A l) (hp : Held1 w p 0) (hpz : p < w.heap.size) :
    Calls Try.prog 81 #[.slice A l.length c, .int .i64 b, .func (Fn.func f) #[] #[.pointer (some ⟨p, 0, none⟩)]] w fun e w' =>
      ∃ v, e = .returned (.tuple #[v, .int .i64 (turned step l b).2]) ∧ OwnI w' w.heap.size v (turned step l b).1 ∧ w.grownBy w' (some p) := by
  by_cases h1 : b < 4 ∨ 40 < b
  · have ht : turned step l b = ([], 1) := by unfold turned; rw [if_pos h1]
    rw [ht]
    go_enter Try.func81, Try.ntmps81
    rcases h1 with h1 | h1
    · go_wp2_with fail
      go_ret2
      exact ⟨_, rfl, OwnI.nil _ _, World.grownBy.refl _ _⟩
    · have h0 : 4 ≤ b := by omega
      go_wp2_with fail
      go_ret2
      exact ⟨_, rfl, OwnI.nil _ _, World.grownBy.refl _ _⟩
  have hb4 : 4 ≤ b := by omega
  have hb40 : b ≤ 40 := by omega
  by_cases h2 : 5000 < l.length
  · have ht : turned step l b = ([], 2) := by unfold turned; rw [if_neg h1, if_pos h2]
    rw [ht]
    clear h1
    go_enter Try.func81, Try.ntmps81
    go_wp2_with fail
    go_ret2
    exact ⟨_, rfl, OwnI.nil _ _, World.grownBy.refl _ _⟩
  have ht : turned step l b = turnG (step (roundOf b)) 0 [] l := by unfold turned; rw [if_neg h1, if_neg h2]
  rw [ht]
  have h5 : l.length ≤ 5000 := by omega
  have hsh := wrap_round b hb4 hb40
  clear ht h1 h2
  obtain ⟨i0, hi, hz0, hz1, hz2⟩ := info_parts info3
  have HZ2 := Lib.hid hz2
  have HI := Lib.hid hi
  have HZ0 := Lib.hid hz0
  have HZ1 := Lib.hid hz1
  clear hz2 hi hz0 hz1
  go_enter Try.func81, Try.ntmps81
  go_wp2_with (first | (refine wpList_make_own _ rfl _ _ 43 rfl w.heap.size 3 i0 _ 1 Try.underlying43 HI.out HZ0.out HZ1.out _ _ _ l.length rfl rfl rfl (by rw [HZ2.out]; omega) (by unfold maxLen; omega) (Nat.le_refl _) ?_; intro w1 hown1 hgrow1) | fail)
  go_loopw [8, 27] (fun v i wr => TurnAt (step (roundOf b)) l w.heap.size p w v i wr) (fun _ i _ => l.length - (intOf i).toNat)
  case atStart => 
    refine ⟨0, 0, [], Nat.zero_le _, rfl, hown1, rfl, hp.kept hgrow1 (by simp), by omega, by omega, grownBy_none hgrow1, rfl⟩
  case round =>
    obtain ⟨k, t, acc, hk, rfl, hown, hacc, hh, ht0, ht1, hg, hturn⟩ := hrel
    by_cases hlt : k < l.length
    · have hAr : IR wr p A l := hA.stay fun q hq => World.cell?_of_block (hg.block q.block (by omega) (by simp; omega))
      obtain ⟨ad, rfl, -, hc⟩ := hAr.get k hlt
      have HC := hstep b l[k] t p wr hb4 hb40 ht0 ht1 hh
      have hgd := hgood (roundOf b) t l[k] ht0
      have HTD := Lib.hid (drop_one l k hlt)
      have HT := Lib.hid hturn
      have hzr : p < wr.heap.size := lt_of_block hh
      have hzw := hg.size
      have hbase := hown.lt
      clear hturn hstep hgood
      rcases hst : step (roundOf b) t l[k] with ⟨u, o, f'⟩
      rw [hst] at HC hgd
      unfold StepPost at HC
      simp only at HC hgd
      have HS := Lib.hid hst
      have HCC := Lib.hid HC
      clear hst HC
      by_cases hf : f' = 0
      · subst hf
        obtain ⟨hu0, hu1⟩ := hgd rfl
        have HACC := Lib.hid hacc
        clear hacc
        go_wp2_with fail
        refine HCC.out.mono ?_
        rintro e w2 ⟨rfl, hg2, hh2⟩
        have hh3 := hh2 trivial
        have hown2 : OwnI w2 w.heap.size u8 acc := World.ownsRow.kept hown hg2 (by
          rcases hv : u8.ownBlock with _ | g
          · exact .inl rfl
          · refine .inr fun e => ?_
            have := (hbase g hv).1
            injection e with e
            omega)
        have hz2 : w.heap.size ≤ w2.heap.size := Nat.le_trans hzw hg2.size
        have hle : acc.length ≤ 5000 := by have := HACC.out; omega
        clear hh2
        go_wp2_with (first | (at_builtin; refine wpList_app _ rfl (.tmp 42) (.tmp 44) 43 3 1 8 rfl elemI w.heap.size u8 acc.length (acc.map iv) rfl (World.ownsRow.alloc hown2 _) (w2.heap.size + 1) _ 1 1 ([o].map iv) rfl rfl (Cells.fresh w2 _ 3 _ _ rfl) (iv_one _) (by unfold maxLen; omega) (by omega) (by simp; omega) ?_; intro v3 w3 hown3 hgrow3 hat3) | fail)
        go_roundw
        case rel =>
          refine ⟨k + 1, u, acc ++ [o], by omega, by go_num, OwnI.of hown3 rfl, by simp [HACC.out], ?_, hu0, hu1, ?_, ?_⟩
          · refine (hh3.kept (World.grownBy_alloc _ _ none) (by simp)).kept hgrow3 fun e => ?_
            have := (hbase p e.symm).1
            omega
          · refine grownBy_new (grownBy_trans hg (grownBy_trans hg2 (World.grownBy_alloc _ _ _))) hgrow3 fun g hgv => (hbase g hgv).1
          · have := HT.out
            rw [HTD.out, turnG_good HS.out] at this
            exact this
        case measure => simp [intOf]; omega
      · have hf1 : ((f' : Int) != 0) = true := by simpa using hf
        have HF := Lib.hid hf
        clear hf hgd
        go_wp2_with fail
        refine HCC.out.mono ?_
        rintro e w2 ⟨rfl, hg2, hh2⟩
        clear hh2
        go_wp2_with fail
        go_ret2
        have := HT.out
        rw [HTD.out, turnG_bad HS.out HF.out] at this
        exact ⟨.slice none 0 0, congrArg (fun r : List Int × Int => Ending.returned (.tuple #[.slice none 0 0, .int .i64 r.2])) this, (congrArg (fun r : List Int × Int => OwnI w2 w.heap.size (.slice none 0 0) r.1) this).mp (OwnI.nil _ _), grownBy_trans hg hg2⟩
    · obtain rfl : k = l.length := by omega
      have HT := Lib.hid hturn
      clear hturn
      go_wp2_with fail
      go_ret2
      have := HT.out
      rw [List.drop_length, turnG] at this
      exact ⟨u8, congrArg (fun r : List Int × Int => Ending.returned (.tuple #[u8, .int .i64 r.2])) this, (congrArg (fun r : List Int × Int => OwnI wr w.heap.size u8 r.1) this).mp hown, hg⟩

theorem Held1.new (w : World) (t : Int) (z : TypeId) (hz : z = 3) : Held1 (w.alloc (.cells #[.int .i64 t] z)) w.heap.size t := by
  subst hz
  exact heap_alloc_new w _
theorem goodU : ∀ R t x, 0 ≤ t → (stepU R t x).2.2 = 0 → 0 ≤ (stepU R t x).1 ∧ (stepU R t x).1 ≤ 1000000000000 := by
  intro R t x ht h
  obtain ⟨h0, h1, h2, e⟩ := stepU_ok h
  have := Int.emod_nonneg (x - t) (show R ≠ 0 by omega)
  rw [e]
  exact ⟨by show 0 ≤ t + (x - t) % R; omega, h2⟩
theorem goodR : ∀ R t x, 0 ≤ t → (stepR R t x).2.2 = 0 → 0 ≤ (stepR R t x).1 ∧ (stepR R t x).1 ≤ 1000000000000 := by
  intro R t x _ h
  obtain ⟨h0, h1, h2, e⟩ := stepR_ok h
  rw [e]
  exact ⟨h0, h1⟩
/-- what Unrolled and Rolled leave -/
def TurnPost (r : List Int × Int) (w : World) (e : Ending) (w' : World) : Prop :=
  ∃ v, e = .returned (.tuple #[v, .int .i64 r.2]) ∧ OwnI w' w.heap.size v r.1 ∧ Below w.heap.size w w'
set_option maxRecDepth 100000 in
set_option maxHeartbeats 400000 in
theorem rolled_any (A : Option Addr) (c : Nat) (l : List Int) (b : Int) (w : World) (hl : l.length ≤ 9223372036854775807) (hA : IR w w.heap.size A l) :
    Calls Try.prog 50 #[.slice A l.length c, .int .i64 b] w (TurnPost (turned stepR l b) w) := by
  have hc := turned_any 82 (fun _ _ => by kernel_rfl) stepR stepR_any goodR A c l b w.heap.size (w.alloc (.cells #[.int .i64 0] 3)) hl (hA.below ((Below.refl _ _).alloc (Nat.le_refl _) _)) (Held1.new w 0 3 rfl) (by simp)
  have HC := Lib.hid hc
  clear hc
  have hmf : ∀ (fn : Fn) (first cap : Array Value) (w : World), (Instr.makeFunc fn first cap).run Try.prog w = .ok (.func fn first cap) w := fun _ _ _ _ => rfl
  go_enter Try.func50, Try.ntmps50
  go_wp2_with fail
  refine HC.out.mono ?_
  rintro e w' ⟨v, rfl, hown, hg⟩
  go_wp2_with fail
  go_ret2
  refine ⟨v, rfl, hown.lower (by simp), ?_⟩
  exact ((Below.refl _ _).alloc (Nat.le_refl _) _).grown hg (by simp) (fun g h => by injection h with h; omega)
end Go.Proofs.Ytpccpkjfnmclfaa
