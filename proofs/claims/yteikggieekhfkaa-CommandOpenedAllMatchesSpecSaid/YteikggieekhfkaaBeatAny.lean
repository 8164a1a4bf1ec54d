/- a beat of any kind; the checks ahead of a run. -/
import Derived.Test.YteikggieekhfkaaBeat
namespace Go.Proofs.Yteikggieekhfkaa
open Go.RowKit

def Bt.cells (t : Bt) : List Value := [.bool t.send, .bool t.lost, .bool t.rep, .bool t.deaf, .int .i64 t.room]
theorem Bt.five (t : Bt) : t.cells.length = 5 := rfl
def Bt.val (t : Bt) : Value := btV t.send t.lost t.rep t.deaf t.room
def Bt.okB (t : Bt) : Bool := decide (0 ≤ t.room ∧ t.room ≤ 2)
theorem bts_get {w : World} {B : Nat} {A : Option Addr} {l : List Bt} (h : SR Bt.cells w B A l) (k : Nat) (hk : k < l.length) :
    ∃ ad, A = some ad ∧ ad.block < B ∧ w.cell? (ad.add (k * 5)) = some (.bool l[k].send) ∧ w.cell? ⟨(ad.add (k * 5)).block, (ad.add (k * 5)).off + 1, none⟩ = some (.bool l[k].lost) ∧ w.cell? ⟨(ad.add (k * 5)).block, (ad.add (k * 5)).off + 2, none⟩ = some (.bool l[k].rep) ∧
      w.cell? ⟨(ad.add (k * 5)).block, (ad.add (k * 5)).off + 3, none⟩ = some (.bool l[k].deaf) ∧ w.cell? ⟨(ad.add (k * 5)).block, (ad.add (k * 5)).off + 4, none⟩ = some (.int .i64 l[k].room) := by
  obtain ⟨ad, e, hb, hc⟩ := SR.get Bt.five (by omega) h k hk
  refine ⟨ad, e, hb, ?_, ?_, ?_, ?_, ?_⟩
  · have := hc 0 _ rfl
    rwa [addr_zero] at this
  · rw [← add_at _ 1 (by omega)]; exact hc 1 _ rfl
  · rw [← add_at _ 2 (by omega)]; exact hc 2 _ rfl
  · rw [← add_at _ 3 (by omega)]; exact hc 3 _ rfl
  · rw [← add_at _ 4 (by omega)]; exact hc 4 _ rfl
theorem beat_any (x : LS) (t : Bt) (P B : Nat) (w : World) (h : Holds w P B x) (hB : B ≤ P) (hx : LOk x) (htk : x.tk.length ≤ 100000) (ht : t.okB = true) :
    Calls Try.prog 60 #[.pointer (some ⟨P, 0, none⟩), t.val] w (SidePost P B (beatS x t).1 (beatS x t).2 w) := by
  obtain ⟨send, lost, rep, deaf, room⟩ := t
  have hr : room = 0 ∨ room = 1 ∨ room = 2 := by
    unfold Bt.okB at ht
    simp only [decide_eq_true_eq] at ht
    omega
  unfold Bt.val
  simp only
  cases send
  · obtain ⟨⟨n, v, L, R, T, k⟩, f, S, q, wd, st, tk⟩ := x
    have := beat_still n v L R T k f S q wd st tk lost rep deaf room P B w _ h hB hx.b hx.g hr (Lib.hid rfl) _ (Lib.hid rfl)
    exact this
  · refine (beat_send x lost rep deaf room P B w _ _ h hB hx htk hr (Lib.hid rfl) (Lib.hid rfl) _ (Lib.hid rfl)).mono ?_
    rintro e w' ⟨he, hh, hb⟩
    unfold beatS
    simp only [if_true]
    split
    · rename_i hF
      exact ⟨he, fun q => absurd q hF, hb⟩
    · rename_i hF
      have h0 : (sendS x lost).2 = 0 := by simpa using hF
      exact ⟨by rw [he, h0], fun _ => hh h0, hb⟩
/-- the fault ahead of a run -/
def bothS (n v k f s : Int) (q : List (List UInt8)) (wd : Int) : Int := if brdS n v k = 0 then gndS f s q wd else brdS n v k
def runC (n v k f s : Int) (q : List (List UInt8)) (wd : Int) (l : List Bt) : Int :=
  if bothS n v k f s q wd = 0 then (if 2000 < l.length then 2 else if l.all Bt.okB = true then 0 else 1) else bothS n v k f s q wd
set_option maxRecDepth 100000 in
set_option maxHeartbeats 1000000 in
theorem checkBoth_any (n v : Int) (L R T : Bool) (k f s : Int) (A : Option Addr) (q : List (List UInt8)) (c : Nat) (wd : Int) (st : Bool) (B : Nat) (w : World) (hB : B ≤ w.heap.size) (hl : q.length ≤ 9223372036854775807) (h : QR w B A q) :
    Calls Try.prog 66 #[uplV n v L R T k, grdV f s (.slice A q.length c) wd st] w fun e w' => e = .returned (.int .i64 (bothS n v k f s q wd)) ∧ Below w.heap.size w w' := by
  have HB := Lib.hid (p_checkBoard_any n v L R T k)
  have HG := Lib.hid (fun (w1 : World) (hb : Below w.heap.size w w1) => p_checkGround_any f s A q c wd st B w1 (Nat.le_trans hB hb.size) hl (h.below (hb.mono hB)))
  have HE := Lib.hid (show bothS n v k f s q wd = if brdS n v k = 0 then gndS f s q wd else brdS n v k from rfl)
  generalize bothS n v k f s q wd = X at *
  generalize brdS n v k = F at *
  generalize gndS f s q wd = G at *
  unfold uplV at HB ⊢
  unfold grdV at HG ⊢
  clear h
  by_cases hF : F = 0
  · have d1 : (F != 0) = false := by simpa using hF
    have HX : Hid (X = G) := Lib.hid (by rw [HE.out, if_pos hF])
    clear HE hF
    go_enter Try.func66, Try.ntmps66
    go_wp2_with fail
    refine (HB.out _).mono ?_
    rintro e w1 ⟨rfl, hb1⟩
    have g1 : Blk w1 (w.heap.size + 1) (grdC f s (.slice A q.length c) wd st) 41 := (Blk.snd w _ _ _).below hb1 (by simp)
    have B1 := (two_new w _ _).trans (hb1.mono (by simp; omega))
    obtain ⟨p0, p1, p2, p3, p4⟩ := blk_g g1
    clear hb1
    go_wp2_with fail
    refine (HG.out _ B1).mono ?_
    rintro e w2 ⟨rfl, hb2⟩
    go_wp2_with fail
    go_ret
    exact ⟨ret_int HX.out.symm, B1.trans (hb2.mono B1.size)⟩
  · have d1 : (F != 0) = true := by simpa using hF
    have HX : Hid (X = F) := Lib.hid (by rw [HE.out, if_neg hF])
    clear HE hF
    go_enter Try.func66, Try.ntmps66
    go_wp2_with fail
    refine (HB.out _).mono ?_
    rintro e w1 ⟨rfl, hb1⟩
    have B1 := (two_new w _ _).trans (hb1.mono (by simp; omega))
    clear hb1
    go_wp2_with fail
    go_ret
    exact ⟨ret_int HX.out.symm, B1⟩
set_option maxRecDepth 100000 in
set_option maxHeartbeats 1600000 in
theorem checkRun_any (n v : Int) (L R T : Bool) (k f s : Int) (A : Option Addr) (q : List (List UInt8)) (c : Nat) (wd : Int) (st : Bool) (Al : Option Addr) (l : List Bt) (cl : Nat) (B : Nat) (w : World) (hB : B ≤ w.heap.size) (hl : q.length ≤ 9223372036854775807) (h : QR w B A q) (hs : SR Bt.cells w B Al l) :
    Calls Try.prog 59 #[uplV n v L R T k, grdV f s (.slice A q.length c) wd st, .slice Al l.length cl] w fun e w' => e = .returned (.int .i64 (runC n v k f s q wd l)) ∧ Below w.heap.size w w' := by
  have HB := Lib.hid (fun (w1 : World) (hb : Below w.heap.size w w1) => checkBoth_any n v L R T k f s A q c wd st B w1 (Nat.le_trans hB hb.size) hl (h.below (hb.mono hB)))
  have HE := Lib.hid (show runC n v k f s q wd l = if bothS n v k f s q wd = 0 then (if 2000 < l.length then 2 else if l.all Bt.okB = true then 0 else 1) else bothS n v k f s q wd from rfl)
  generalize runC n v k f s q wd l = X at *
  generalize bothS n v k f s q wd = F at *
  unfold uplV grdV at *
  have HB2 := Lib.hid (two_new w)
  clear h
  by_cases hF : F = 0
  · have d1 : (F != 0) = false := by simpa using hF
    by_cases h2 : 2000 < l.length
    · have HX : Hid (X = 2) := Lib.hid (by rw [HE.out, if_pos hF, if_pos h2])
      have d2 : decide ((2000 : Int) < (l.length : Int)) = true := decide_eq_true (by omega)
      clear HE hF
      go_enter Try.func59, Try.ntmps59
      go_wp2_with fail
      refine (HB.out _ (HB2.out _ _)).mono ?_
      rintro e w1 ⟨rfl, hb1⟩
      have B1 := (HB2.out _ _).trans (hb1.mono (by simp; omega))
      clear hb1
      go_wp2_with fail
      go_ret
      exact ⟨ret_int HX.out.symm, B1⟩
    · have HX0 : Hid (X = if l.all Bt.okB = true then 0 else 1) := Lib.hid (by rw [HE.out, if_pos hF, if_neg h2])
      have d2 : decide ((2000 : Int) < (l.length : Int)) = false := decide_eq_false (by omega)
      have hll : (l.length : Int) ≤ 2000 := by omega
      clear HE hF h2
      go_enter Try.func59, Try.ntmps59
      go_wp2_with fail
      refine (HB.out _ (HB2.out _ _)).mono ?_
      rintro e w1 ⟨rfl, hb1⟩
      have B1 := (HB2.out _ _).trans (hb1.mono (by simp; omega))
      clear hb1
      go_wp2_with fail
      go_loopw [21] (fun i wr => ∃ j : Nat, j ≤ l.length ∧ i = .int .i64 j ∧ (l.take j).all Bt.okB = true ∧ Below w.heap.size w wr) (fun i _ => l.length - (intOf i).toNat)
      case atStart => exact ⟨0, Nat.zero_le _, rfl, rfl, B1⟩
      case round =>
        obtain ⟨j, hj, rfl, hall, hbr⟩ := hrel
        by_cases hlt : j < l.length
        · obtain ⟨ad, hAd, hbk, c0, c1, c2, c3, c4⟩ := bts_get (hs.below (hbr.mono hB)) j hlt
          subst hAd
          have hi0 : (0 : Int) ≤ (j : Int) := by omega
          have hi1 : (j : Int) < (l.length : Int) := by omega
          have HT : Hid ((l.take (j + 1)).all Bt.okB = (l[j]).okB) := Lib.hid (by rw [List.take_succ_eq_append_getElem hlt, List.all_append, hall]; simp)
          have HBAD : Hid ((l[j]).okB = false → X = 1) := Lib.hid (fun e => by
            rw [HX0.out, if_neg]
            intro q2
            have := List.all_eq_true.1 q2 l[j] (List.getElem_mem hlt)
            rw [e] at this
            cases this)
          have HO := Lib.hid (show (l[j]).okB = decide (0 ≤ (l[j]).room ∧ (l[j]).room ≤ 2) from rfl)
          generalize l[j] = t at *
          obtain ⟨ts, tl, tr, td, tm⟩ := t
          simp only at c0 c1 c2 c3 c4 HO
          clear hall
          by_cases hm : 0 ≤ tm ∧ tm ≤ 2
          · have d3 : decide (0 ≤ tm ∧ tm ≤ 2) = true := decide_eq_true hm
            have HN : Hid ((l.take (j + 1)).all Bt.okB = true) := Lib.hid (by rw [HT.out, HO.out, d3])
            clear hm
            go_wp2_with (first | (go_at_call 55; refine (p_within_any _ _ _ _).mono ?_; rintro e w' ⟨rfl, rfl⟩) | fail)
            go_roundw
            case rel => exact ⟨j + 1, by omega, by go_num, HN.out, hbr.alloc hbr.size _⟩
            case measure => simp [intOf]; omega
          · have d3 : decide (0 ≤ tm ∧ tm ≤ 2) = false := decide_eq_false hm
            have HN : Hid (X = 1) := Lib.hid (HBAD.out (by rw [HO.out, d3]))
            clear hm
            go_wp2_with (first | (go_at_call 55; refine (p_within_any _ _ _ _).mono ?_; rintro e w' ⟨rfl, rfl⟩) | fail)
            go_ret
            exact ⟨ret_int HN.out.symm, hbr.alloc hbr.size _⟩
        · have HN : Hid (X = 0) := Lib.hid (by
            rw [HX0.out, if_pos]
            rw [List.take_of_length_le (by omega)] at hall
            exact hall)
          clear hall
          go_wp2_with fail
          go_ret
          exact ⟨ret_int HN.out.symm, hbr⟩
  · have d1 : (F != 0) = true := by simpa using hF
    have HX : Hid (X = F) := Lib.hid (by rw [HE.out, if_neg hF])
    clear HE hF
    go_enter Try.func59, Try.ntmps59
    go_wp2_with fail
    refine (HB.out _ (HB2.out _ _)).mono ?_
    rintro e w1 ⟨rfl, hb1⟩
    have B1 := (HB2.out _ _).trans (hb1.mono (by simp; omega))
    clear hb1
    go_wp2_with fail
    go_ret
    exact ⟨ret_int HX.out.symm, B1⟩
end Go.Proofs.Yteikggieekhfkaa
