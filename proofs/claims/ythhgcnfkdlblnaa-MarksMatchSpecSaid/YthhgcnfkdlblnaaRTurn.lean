/- the reference's counters: Unrolled, Rolled. -/
import Derived.Test.YthhgcnfkdlblnaaTurn
import Derived.Deep.Draws
namespace Go.Proofs.Ythhgcnfkdlblnaa
open Go.RowKit

theorem OwnI.get {w : World} {base : Nat} {v : Value} {l : List Int} (h : OwnI w base v l) (k : Nat) (hk : k < l.length) : ∃ ad c, v = .slice (some ad) l.length c ∧ w.cell? (ad.add k) = some (.int .i64 l[k]) := by
  obtain ⟨A, c, rfl, hI⟩ := h.form
  obtain ⟨ad, rfl, -, hc⟩ := hI.get k hk
  exact ⟨ad, c, rfl, hc⟩
theorem OwnI.drawn {w : World} {base : Nat} {v : Value} {l : List Int} (h : OwnI w base v l) (n : Nat) : OwnI (w.drewN n) base v l := h.after (below_draws (Below.refl w.heap.size w) n) (Nat.le_refl _)
/-- the head of the reference's loop -/
def RTurnAt (R : Int) (l : List Int) (w : World) (v i : Value) (wr : World) : Prop :=
  ∃ (k : Nat) (t : Int) (acc : List Int), k ≤ l.length ∧ i = .int .i64 k ∧ OwnI wr w.heap.size v acc ∧ acc.length = k ∧ 0 ≤ t ∧ t ≤ 1000000000000 ∧ (k = 0 → t = 0) ∧ acc.getLastD 0 = t ∧ Below w.heap.size w wr ∧ turnG (stepU R) t acc (l.drop k) = turnG (stepU R) 0 [] l
theorem last_at (acc : List Int) (k : Nat) (h : acc.length = k) (hk : 0 < k) : acc.getLastD 0 = acc[k - 1] := by
  subst h
  rw [List.getLastD_eq_getLast?, List.getLast?_eq_getElem?, List.getElem?_eq_getElem (by omega)]
  rfl

set_option maxRecDepth 100000 in
set_option maxHeartbeats 2000000 in
theorem runrolled_any (A : Option Addr) (c : Nat) (l : List Int) (b : Int) (w : World) (hl : l.length ≤ 9223372036854775807) (hA : IR w w.heap.size A l) :
    Calls Try.prog 20 #[.slice A l.length c, .int .i64 b] w (TurnPost (turned stepU l b) w) := by
  by_cases h1 : b < 4 ∨ 40 < b
  · have ht : turned stepU l b = ([], 1) := by unfold turned; rw [if_pos h1]
    rw [ht]
    have hd : decide (4 ≤ b ∧ b ≤ 40) = false := by simp; omega
    clear h1
    go_enter Try.func20, Try.ntmps20
    go_wp2_with (go_at_call 54; refine (within_any _ _ _ _).mono ?_; rintro e w' ⟨rfl, rfl⟩)
    go_ret2
    exact ⟨_, rfl, OwnI.nil _ _, Below.refl _ _⟩
  have hb4 : 4 ≤ b := by omega
  have hb40 : b ≤ 40 := by omega
  have hd : decide (4 ≤ b ∧ b ≤ 40) = true := by simp; omega
  by_cases h2 : 5000 < l.length
  · have ht : turned stepU l b = ([], 2) := by unfold turned; rw [if_neg h1, if_pos h2]
    rw [ht]
    clear h1
    go_enter Try.func20, Try.ntmps20
    go_wp2_with (go_at_call 54; refine (within_any _ _ _ _).mono ?_; rintro e w' ⟨rfl, rfl⟩)
    go_ret2
    exact ⟨_, rfl, OwnI.nil _ _, Below.refl _ _⟩
  have ht : turned stepU l b = turnG (stepU (roundOf b)) 0 [] l := by unfold turned; rw [if_neg h1, if_neg h2]
  rw [ht]
  have h5 : l.length ≤ 5000 := by omega
  obtain ⟨hR1, hR2⟩ := roundOf_bd b hb4 hb40
  have hsh := wrap_round b hb4 hb40
  clear ht h1 h2
  generalize roundOf b = R at *
  go_enter Try.func20, Try.ntmps20
  go_wp2_with (go_at_call 54; refine (within_any _ _ _ _).mono ?_; rintro e w' ⟨rfl, rfl⟩)
  simp only [hsh]
  clear hsh
  go_loopw [7, 8] (fun v i wr => RTurnAt R l w v i wr) (fun _ i _ => l.length - (intOf i).toNat)
  case atStart => exact ⟨0, 0, [], Nat.zero_le _, rfl, OwnI.nil _ _, rfl, by omega, by omega, fun _ => rfl, rfl, Below.refl _ _, rfl⟩
  case round =>
    obtain ⟨k, t, acc, hk, rfl, hown, hacc, ht0, ht1, hz, hlast, hb, hturn⟩ := hrel
    have HT := Lib.hid hturn
    have HACC := Lib.hid hacc
    clear hturn
    by_cases hlt : k < l.length
    · have hAr : IR wr w.heap.size A l := hA.below hb
      obtain ⟨ad, rfl, -, hc⟩ := hAr.get k hlt
      have HTD := Lib.hid (drop_one l k hlt)
      have hbz := hb.size
      have hle : acc.length ≤ 5000 := by omega
      generalize l[k] = x at *
      by_cases hx : x < 0 ∨ R ≤ x
      · have hs : stepU R t x = (t, 0, 1) := by unfold stepU; rw [if_pos hx]
        have HS := Lib.hid hs
        have hdx : decide (0 ≤ x ∧ x ≤ R - 1) = false := by simp; omega
        clear hs hx hz hacc hlast
        go_wp2_with (go_at_call 54; refine (within_any _ _ _ _).mono ?_; rintro e w' ⟨rfl, rfl⟩)
        go_ret2
        have := HT.out
        rw [HTD.out, turnG_bad HS.out (by omega)] at this
        exact ⟨.slice none 0 0, congrArg (fun r : List Int × Int => Ending.returned (.tuple #[.slice none 0 0, .int .i64 r.2])) this, (congrArg (fun r : List Int × Int => OwnI wr w.heap.size (.slice none 0 0) r.1) this).mp (OwnI.nil _ _), hb⟩
      · have hdx : decide (0 ≤ x ∧ x ≤ R - 1) = true := by simp; omega
        have hx0 : 0 ≤ x := by omega
        have hx1 : x < R := by omega
        have hx2 : x ≤ R - 1 := by omega
        clear hx
        rcases Nat.eq_zero_or_pos k with h0 | h0
        · have ht00 := hz h0
          subst ht00
          have hk0 : ¬ (0 < (k : Int)) := by omega
          have he : (x - 0) % R = x := by rw [Int.sub_zero]; exact Int.emod_eq_of_lt hx0 hx1
          by_cases ho : 1000000000000 < x
          · have hs : stepU R 0 x = (x, 0, 1) := by unfold stepU; rw [if_neg (by omega), he, Int.zero_add, if_pos ho]
            have HS := Lib.hid hs
            clear hs hz hacc hlast h0 he ht0 ht1
            go_wp2_with (go_at_call 54; refine (within_any _ _ _ _).mono ?_; rintro e w' ⟨rfl, rfl⟩)
            go_ret2
            have := HT.out
            rw [HTD.out, turnG_bad HS.out (by omega)] at this
            exact ⟨.slice none 0 0, congrArg (fun r : List Int × Int => Ending.returned (.tuple #[.slice none 0 0, .int .i64 r.2])) this, (congrArg (fun r : List Int × Int => OwnI wr w.heap.size (.slice none 0 0) r.1) this).mp (OwnI.nil _ _), hb⟩
          · have hs : stepU R 0 x = (x, x, 0) := by unfold stepU; rw [if_neg (by omega), he, Int.zero_add, if_neg ho]
            have HS := Lib.hid hs
            have ho' : x ≤ 1000000000000 := by omega
            clear hs hz hacc hlast h0 he ht0 ht1
            go_wp2_with (first | (go_at_call 54; refine (within_any _ _ _ _).mono ?_; rintro e w' ⟨rfl, rfl⟩) | (at_builtin; refine wpList_app _ rfl (.tmp 65) (.tmp 67) 22 3 1 8 rfl elemI w.heap.size u7 acc.length (acc.map iv) rfl (World.ownsRow.alloc hown _) (wr.heap.size + 1) _ 1 1 ([x].map iv) rfl rfl (Cells.fresh wr _ 3 _ _ rfl) (iv_one _) (by unfold maxLen; omega) (by omega) (by simp; omega) ?_; intro v3 w3 hown3 hgrow3 hat3) | fail)
            go_roundw
            case rel =>
              refine ⟨k + 1, x, acc ++ [x], by omega, by go_num, OwnI.of hown3 rfl, by simp [HACC.out], hx0, ho', fun e => by omega, by simp, ?_, ?_⟩
              · exact (hb.alloc hbz _).grown hgrow3 (by simp; omega) (fun g hgv => (hown.lt g hgv).1)
              · have := HT.out
                rw [HTD.out, turnG_good HS.out] at this
                exact this
            case measure => simp [intOf]; omega
        · have hk0 : (0 < (k : Int)) := by omega
          have hlk := last_at acc k hacc h0
          obtain ⟨adk, ck, rfl, hck⟩ := hown.get (k - 1) (by omega)
          rw [← hlk, hlast] at hck
          have hk1 : (0 : Int) ≤ (k : Int) - 1 := by omega
          have hk2 : (k : Int) - 1 < (acc.length : Int) := by omega
          have hk3 : ((k : Int) - 1).toNat = k - 1 := by omega
          have hm0 := Int.emod_nonneg t (show R ≠ 0 by omega)
          have hm1 := Int.emod_lt_of_pos t (show 0 < R by omega)
          have he : (x - t % R + R) % R = (x - t) % R := by rw [Int.add_emod_right, Int.sub_emod_emod]
          have hg0 := Int.emod_nonneg (x - t) (show R ≠ 0 by omega)
          have hg1 := Int.emod_lt_of_pos (x - t) (show 0 < R by omega)
          generalize hM : (x - t) % R = M at *
          have HM := Lib.hid hM
          have HE := Lib.hid he
          clear hM he hz hacc hlast hlk
          by_cases ho : 1000000000000 < t + M
          · have hs : stepU R t x = (t + M, 0, 1) := by unfold stepU; rw [if_neg (by omega), HM.out, if_pos ho]
            have HS := Lib.hid hs
            clear hs
            go_wp2_with (first | (go_at_call 54; refine (within_any _ _ _ _).mono ?_; rintro e w' ⟨rfl, rfl⟩) | fail)
            go_quiet (fail)
            simp only [HE.out]
            go_wp2_with fail
            go_ret2
            have := HT.out
            rw [HTD.out, turnG_bad HS.out (by omega)] at this
            exact ⟨.slice none 0 0, congrArg (fun r : List Int × Int => Ending.returned (.tuple #[.slice none 0 0, .int .i64 r.2])) this, (congrArg (fun r : List Int × Int => OwnI _ w.heap.size (.slice none 0 0) r.1) this).mp (OwnI.nil _ _), below_draws hb nq⟩
          · have hs : stepU R t x = (t + M, t + M, 0) := by unfold stepU; rw [if_neg (by omega), HM.out, if_neg ho]
            have HS := Lib.hid hs
            have ho' : t + M ≤ 1000000000000 := by omega
            clear hs
            go_wp2_with (first | (go_at_call 54; refine (within_any _ _ _ _).mono ?_; rintro e w' ⟨rfl, rfl⟩) | fail)
            go_quiet (fail)
            simp only [HE.out]
            have hown2 := hown.drawn nq
            have hb2 := below_draws hb nq
            go_wp2_with (first | (at_builtin; refine wpList_app _ rfl (.tmp 65) (.tmp 67) 22 3 1 8 rfl elemI w.heap.size _ acc.length (acc.map iv) rfl (World.ownsRow.alloc hown2 _) (wr.heap.size + 1) _ 1 1 ([t + M].map iv) rfl rfl (Cells.fresh (wr.drewN nq) _ 3 _ _ rfl) (iv_one _) (by unfold maxLen; omega) (by omega) (by simp; omega) ?_; intro v3 w3 hown3 hgrow3 hat3) | fail)
            go_roundw
            case rel =>
              refine ⟨k + 1, t + M, acc ++ [t + M], by omega, by go_num, OwnI.of hown3 rfl, by simp [HACC.out], by omega, ho', fun e => by omega, by simp, ?_, ?_⟩
              · exact (hb2.alloc hb2.size _).grown hgrow3 (by simp; omega) (fun g hgv => (hown2.lt g hgv).1)
              · have := HT.out
                rw [HTD.out, turnG_good HS.out] at this
                exact this
            case measure => simp [intOf]; omega
    · obtain rfl : k = l.length := by omega
      clear hz hacc hlast
      go_wp2_with fail
      go_ret2
      have := HT.out
      rw [List.drop_length, turnG] at this
      exact ⟨u7, congrArg (fun r : List Int × Int => Ending.returned (.tuple #[u7, .int .i64 r.2])) this, (congrArg (fun r : List Int × Int => OwnI wr w.heap.size u7 r.1) this).mp hown, hb⟩

/-- the head of the reference's loop -/
def RRollAt (R : Int) (l : List Int) (w : World) (v i : Value) (wr : World) : Prop :=
  ∃ (k : Nat) (t : Int) (acc : List Int), k ≤ l.length ∧ i = .int .i64 k ∧ OwnI wr w.heap.size v acc ∧ acc.length = k ∧ (k = 0 → t = 0) ∧ (0 < k → l[k - 1]? = some t) ∧ Below w.heap.size w wr ∧ turnG (stepR R) t acc (l.drop k) = turnG (stepR R) 0 [] l

set_option maxRecDepth 100000 in
set_option maxHeartbeats 2000000 in
theorem rrolled_any (A : Option Addr) (c : Nat) (l : List Int) (b : Int) (w : World) (hl : l.length ≤ 9223372036854775807) (hA : IR w w.heap.size A l) :
    Calls Try.prog 22 #[.slice A l.length c, .int .i64 b] w (TurnPost (turned stepR l b) w) := by
  by_cases h1 : b < 4 ∨ 40 < b
  · have ht : turned stepR l b = ([], 1) := by unfold turned; rw [if_pos h1]
    rw [ht]
    have hd : decide (4 ≤ b ∧ b ≤ 40) = false := by simp; omega
    clear h1
    go_enter Try.func22, Try.ntmps22
    go_wp2_with (go_at_call 54; refine (within_any _ _ _ _).mono ?_; rintro e w' ⟨rfl, rfl⟩)
    go_ret2
    exact ⟨_, rfl, OwnI.nil _ _, Below.refl _ _⟩
  have hb4 : 4 ≤ b := by omega
  have hb40 : b ≤ 40 := by omega
  have hd : decide (4 ≤ b ∧ b ≤ 40) = true := by simp; omega
  by_cases h2 : 5000 < l.length
  · have ht : turned stepR l b = ([], 2) := by unfold turned; rw [if_neg h1, if_pos h2]
    rw [ht]
    clear h1
    go_enter Try.func22, Try.ntmps22
    go_wp2_with (go_at_call 54; refine (within_any _ _ _ _).mono ?_; rintro e w' ⟨rfl, rfl⟩)
    go_ret2
    exact ⟨_, rfl, OwnI.nil _ _, Below.refl _ _⟩
  have ht : turned stepR l b = turnG (stepR (roundOf b)) 0 [] l := by unfold turned; rw [if_neg h1, if_neg h2]
  rw [ht]
  have h5 : l.length ≤ 5000 := by omega
  obtain ⟨hR1, hR2⟩ := roundOf_bd b hb4 hb40
  have hsh := wrap_round b hb4 hb40
  clear ht h1 h2
  generalize roundOf b = R at *
  go_enter Try.func22, Try.ntmps22
  go_wp2_with (go_at_call 54; refine (within_any _ _ _ _).mono ?_; rintro e w' ⟨rfl, rfl⟩)
  go_loopw [6, 7] (fun v i wr => RRollAt R l w v i wr) (fun _ i _ => l.length - (intOf i).toNat)
  case atStart => exact ⟨0, 0, [], Nat.zero_le _, rfl, OwnI.nil _ _, rfl, fun _ => rfl, fun h => by omega, Below.refl _ _, rfl⟩
  case round =>
    obtain ⟨k, t, acc, hk, rfl, hown, hacc, hz, hlast, hb, hturn⟩ := hrel
    have HT := Lib.hid hturn
    have HACC := Lib.hid hacc
    clear hturn
    by_cases hlt : k < l.length
    · have hAr : IR wr w.heap.size A l := hA.below hb
      obtain ⟨ad, rfl, -, hc⟩ := hAr.get k hlt
      have HTD := Lib.hid (drop_one l k hlt)
      have hbz := hb.size
      have hle : acc.length ≤ 5000 := by omega
      have hown1 := hown
      have HLX := Lib.hid (List.getElem?_eq_getElem hlt)
      generalize l[k] = x at hc HTD HLX
      by_cases hx : x < 0 ∨ 1000000000000 < x
      · have hs : stepR R t x = (t, 0, 1) := by unfold stepR; rw [if_pos hx]
        have HS := Lib.hid hs
        have hdx : decide (0 ≤ x ∧ x ≤ 1000000000000) = false := by simp; omega
        clear hs hx hz hacc hlast
        go_wp2_with (go_at_call 54; refine (within_any _ _ _ _).mono ?_; rintro e w' ⟨rfl, rfl⟩)
        go_ret2
        have := HT.out
        rw [HTD.out, turnG_bad HS.out (by omega)] at this
        exact ⟨.slice none 0 0, congrArg (fun r : List Int × Int => Ending.returned (.tuple #[.slice none 0 0, .int .i64 r.2])) this, (congrArg (fun r : List Int × Int => OwnI wr w.heap.size (.slice none 0 0) r.1) this).mp (OwnI.nil _ _), hb⟩
      · have hdx : decide (0 ≤ x ∧ x ≤ 1000000000000) = true := by simp; omega
        have hx0 : 0 ≤ x := by omega
        have hx1 : x ≤ 1000000000000 := by omega
        clear hx
        by_cases ho : x < t
        · have h0 : 0 < k := by
            rcases Nat.eq_zero_or_pos k with e | e
            · have := hz e; omega
            · exact e
          have hs : stepR R t x = (t, 0, 8) := by unfold stepR; rw [if_neg (by omega), if_pos ho]
          have HS := Lib.hid hs
          obtain ⟨adk, hadk, -, hck⟩ := hAr.get (k - 1) (by omega)
          obtain rfl : ad = adk := by injection hadk
          have hlk := hlast h0
          rw [List.getElem?_eq_getElem (by omega), Option.some.injEq] at hlk
          rw [hlk] at hck
          have hk0 : (0 < (k : Int)) := by omega
          have hk00 : decide (0 < (k : Int)) = true := by simp; omega
          have hk1 : (0 : Int) ≤ (k : Int) - 1 := by omega
          have hk2 : (k : Int) - 1 < (l.length : Int) := by omega
          have hk3 : ((k : Int) - 1).toNat = k - 1 := by omega
          have hk4 : (k : Int) < (l.length : Int) := by omega
          clear hs hz hacc hlast hadk hlk
          go_wp2_with (first | (go_at_call 54; refine (within_any _ _ _ _).mono ?_; rintro e w' ⟨rfl, rfl⟩) | fail)
          go_quiet (fail)
          go_wp2_with fail
          go_ret2
          have := HT.out
          rw [HTD.out, turnG_bad HS.out (by omega)] at this
          exact ⟨.slice none 0 0, congrArg (fun r : List Int × Int => Ending.returned (.tuple #[.slice none 0 0, .int .i64 r.2])) this, (congrArg (fun r : List Int × Int => OwnI _ w.heap.size (.slice none 0 0) r.1) this).mp (OwnI.nil _ _), below_draws hb nq⟩
        · have hs : stepR R t x = (x, x % R, 0) := by unfold stepR; rw [if_neg (by omega), if_neg ho]
          have HS := Lib.hid hs
          have hm0 := Int.emod_nonneg x (show R ≠ 0 by omega)
          rcases Nat.eq_zero_or_pos k with h0 | h0
          · have hk0 : ¬ (0 < (k : Int)) := by omega
            have hk00 : decide (0 < (k : Int)) = false := by simp; omega
            have hk01 : decide (0 < k) = false := by simp; omega
            clear hs hz hacc hlast h0
            go_wp2_with (first | (go_at_call 54; refine (within_any _ _ _ _).mono ?_; rintro e w' ⟨rfl, rfl⟩) | fail)
            go_quiet (fail)
            have hown2 := hown.drawn nq
            have hb2 := below_draws hb nq
            go_wp2_with (first | (at_builtin; refine wpList_app _ rfl (.tmp 40) (.tmp 49) 22 3 1 8 rfl elemI w.heap.size _ acc.length (acc.map iv) rfl (World.ownsRow.alloc hown2 _) (wr.heap.size + 1) _ 1 1 ([x % R].map iv) rfl rfl (Cells.fresh (wr.drewN nq) _ 3 _ _ rfl) (iv_one _) (by unfold maxLen; omega) (by omega) (by simp; omega) ?_; intro v3 w3 hown3 hgrow3 hat3) | fail)
            go_roundw
            case rel =>
              refine ⟨k + 1, x, acc ++ [x % R], by omega, by go_num, OwnI.of hown3 rfl, by simp [HACC.out], fun e => by omega, fun _ => HLX.out, ?_, ?_⟩
              · exact (hb2.alloc hb2.size _).grown hgrow3 (by simp; omega) (fun g hgv => (hown2.lt g hgv).1)
              · have := HT.out
                rw [HTD.out, turnG_good HS.out] at this
                exact this
            case measure => simp [intOf]; omega
          · obtain ⟨adk, hadk, -, hck⟩ := hAr.get (k - 1) (by omega)
            obtain rfl : ad = adk := by injection hadk
            have hlk := hlast h0
            rw [List.getElem?_eq_getElem (by omega), Option.some.injEq] at hlk
            rw [hlk] at hck
            have hk0 : (0 < (k : Int)) := by omega
            have hk00 : decide (0 < (k : Int)) = true := by simp; omega
            have hk1 : (0 : Int) ≤ (k : Int) - 1 := by omega
            have hk2 : (k : Int) - 1 < (l.length : Int) := by omega
            have hk3 : ((k : Int) - 1).toNat = k - 1 := by omega
            have hk4 : (k : Int) < (l.length : Int) := by omega
            clear hs hz hacc hlast hadk hlk
            go_wp2_with (first | (go_at_call 54; refine (within_any _ _ _ _).mono ?_; rintro e w' ⟨rfl, rfl⟩) | fail)
            go_quiet (fail)
            have hown2 := hown.drawn nq
            have hb2 := below_draws hb nq
            go_wp2_with (first | (at_builtin; refine wpList_app _ rfl (.tmp 40) (.tmp 49) 22 3 1 8 rfl elemI w.heap.size _ acc.length (acc.map iv) rfl (World.ownsRow.alloc hown2 _) (wr.heap.size + 1) _ 1 1 ([x % R].map iv) rfl rfl (Cells.fresh (wr.drewN nq) _ 3 _ _ rfl) (iv_one _) (by unfold maxLen; omega) (by omega) (by simp; omega) ?_; intro v3 w3 hown3 hgrow3 hat3) | fail)
            go_roundw
            case rel =>
              refine ⟨k + 1, x, acc ++ [x % R], by omega, by go_num, OwnI.of hown3 rfl, by simp [HACC.out], fun e => by omega, fun _ => HLX.out, ?_, ?_⟩
              · exact (hb2.alloc hb2.size _).grown hgrow3 (by simp; omega) (fun g hgv => (hown2.lt g hgv).1)
              · have := HT.out
                rw [HTD.out, turnG_good HS.out] at this
                exact this
            case measure => simp [intOf]; omega
    · obtain rfl : k = l.length := by omega
      clear hz hacc hlast
      go_wp2_with fail
      go_ret2
      have := HT.out
      rw [List.drop_length, turnG] at this
      exact ⟨u6, congrArg (fun r : List Int × Int => Ending.returned (.tuple #[u6, .int .i64 r.2])) this, (congrArg (fun r : List Int × Int => OwnI wr w.heap.size u6 r.1) this).mp hown, hb⟩
end Go.Proofs.Ythhgcnfkdlblnaa
