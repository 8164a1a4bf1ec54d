/- opening a signed command: the reference's opened. -/
import Derived.Test.YteikggieekhfkaaPOpd
import Derived.Test.YteikggieekhfkaaRSeen
namespace Go.Proofs.Yteikggieekhfkaa
open Go.RowKit

def opnK (key least : Int) (l : List Int) (b : List UInt8) : Int × Int × List Int := if openC key least l b = 0 then (key, seenS least l (openN key least l b)) else (0, 0, [])
/-- how opened ends -/
def OpnEnd (key : Int) (R : Int × List Int) (L : List UInt8) (n : Int) (w : World) (s5 s6 s7 : Value) (wx : World) : Prop :=
  s6 = .int .i64 n ∧ s7 = .int .i64 0 ∧ ∃ A c, Blk wx (w.heap.size + 1) (kyC key R.1 (.slice A R.2.length c)) 58 ∧ IR wx wx.heap.size A R.2 ∧ R.2.length ≤ c ∧ (A = none → c = 0) ∧ Own wx w.heap.size s5 L ∧ Below w.heap.size w wx ∧ ∀ ad, A = some ad → w.heap.size ≤ ad.block
theorem OpnEnd.drew {key n : Int} {R : Int × List Int} {L : List UInt8} {w wx : World} {s5 s6 s7 : Value} {k : Nat} (h : OpnEnd key R L n w s5 s6 s7 wx) : OpnEnd key R L n w s5 s6 s7 (wx.drewN k) := by
  obtain ⟨h1, h2, A, c, h3, h4, h5, h6, h7, h8, h9⟩ := h
  exact ⟨h1, h2, A, c, h3.drew k, h4, h5, h6, h7, below_draws h8 k, h9⟩
theorem OpnEnd.last {key n : Int} {R : Int × List Int} {L : List UInt8} {w wx : World} {v : Value} {A : Option Addr} {c : Nat} (gz : Blk wx (w.heap.size + 1) (kyC 0 0 (.slice none 0 0)) 58) (hr : IR wx wx.heap.size A R.2) (hlc : R.2.length ≤ c) (hn : A = none → c = 0) (hA : ∀ ad, A = some ad → w.heap.size + 1 < ad.block) (ho : Own wx (w.heap.size + 2) v L) (hb : Below w.heap.size w wx) :
    OpnEnd key R L n w v (.int .i64 n) (.int .i64 0) (((wx.setCell ⟨w.heap.size + 1, 0, none⟩ (.int .i64 key)).setCell ⟨w.heap.size + 1, 1, none⟩ (.int .i64 R.1)).setCell ⟨w.heap.size + 1, 2, none⟩ (.slice A R.2.length c)) := by
  have hne : ∀ ad, A = some ad → ad.block ≠ w.heap.size + 1 := fun ad e => by have := hA ad e; omega
  exact ⟨rfl, rfl, A, c, ((gz.set1 0 _).set1 1 _).set1 2 _, (((hr.othr hne).othr hne).othr hne).lift (by simp), hlc, hn, (((ho.aside (by omega)).aside (by omega)).aside (by omega)).lower (by omega), ((hb.setCell (Nat.le_succ _) _).setCell (Nat.le_succ _) _).setCell (Nat.le_succ _) _, fun ad e => by have := hA ad e; omega⟩
theorem OpnEnd.first {key n : Int} {R : Int × List Int} {L : List UInt8} {w wx w8 : World} {v : Value} {A : Option Addr} {c : Nat} (gz : Blk wx (w.heap.size + 1) (kyC key R.1 (.slice A R.2.length c)) 58) (hr : IR wx wx.heap.size A R.2) (hlc : R.2.length ≤ c) (hn : A = none → c = 0) (hA : ∀ ad, A = some ad → w.heap.size + 1 < ad.block) (hb : Below w.heap.size w wx) (h8 : Below wx.heap.size wx w8) (ho : Own w8 wx.heap.size v L) :
    OpnEnd key R L n w v (.int .i64 n) (.int .i64 0) w8 :=
  ⟨rfl, rfl, A, c, gz.below h8 gz.lt, (hr.below h8).lift h8.size, hlc, hn, ho.lower hb.size, hb.trans (h8.mono hb.size), fun ad e => by have := hA ad e; omega⟩
theorem OpnEnd.mid {key n : Int} {R : Int × List Int} {L : List UInt8} {w wx wS w8 : World} {v : Value} {A : Option Addr} {c : Nat} (hS : ((wx.setCell ⟨w.heap.size + 1, 0, none⟩ (.int .i64 key)).setCell ⟨w.heap.size + 1, 1, none⟩ (.int .i64 R.1)).setCell ⟨w.heap.size + 1, 2, none⟩ (.slice A R.2.length c) = wS) (gz : Blk wx (w.heap.size + 1) (kyC 0 0 (.slice none 0 0)) 58) (hr : IR wx wx.heap.size A R.2) (hlc : R.2.length ≤ c) (hn : A = none → c = 0) (hA : ∀ ad, A = some ad → w.heap.size + 1 < ad.block) (hb : Below w.heap.size w wx) (h8 : Below wS.heap.size wS w8) (ho : Own w8 wS.heap.size v L) :
    OpnEnd key R L n w v (.int .i64 n) (.int .i64 0) w8 := by
  subst hS
  have hne : ∀ ad, A = some ad → ad.block ≠ w.heap.size + 1 := fun ad e => by have := hA ad e; omega
  exact OpnEnd.first (((gz.set1 0 _).set1 1 _).set1 2 _) ((((hr.othr hne).othr hne).othr hne).lift (by simp)) hlc hn hA (((hb.setCell (Nat.le_succ _) _).setCell (Nat.le_succ _) _).setCell (Nat.le_succ _) _) h8 ho
attribute [local go_sem] setCell_draws alloc_draws
set_option maxRecDepth 100000 in
set_option maxHeartbeats 4000000 in
theorem r_opened_any (key least : Int) (SA : Option Addr) (l : List Int) (sc : Nat) (A : Option Addr) (b : List UInt8) (c B : Nat) (w : World) (hB : B ≤ w.heap.size) (hll : l.length ≤ 1000) (hs : Asc l) (hSn : SA = none → sc = 0) (hl0 : 0 ≤ least) (hl1 : least ≤ 1000000001) (hbc : b.length ≤ c) (hbl : b.length ≤ 9223372036854775807) (hS : IR w B SA l) (hb : BR w B A b) :
    Calls Try.prog 77 #[kyV key least (.slice SA l.length sc), .slice A b.length c] w (OpdPost (opnK key least l b) (openB key least l b) (openN key least l b) (openC key least l b) w) := by
  have HE := Lib.hid (show openC key least l b = if b.length ≤ 16 then 9 else if 216 < b.length then 2 else
    if b.drop (b.length - 8) = bigE (sgN key (b.take (b.length - 8))) 8 then
      (if bigN (b.take 8) ≤ 1000000000 then (if (bigN (b.take 8) : Int) < least ∨ (bigN (b.take 8) : Int) ∈ l then 7 else if least + 64 < (bigN (b.take 8) : Int) then 11 else 0) else 1)
    else 15 from rfl)
  have HEB := Lib.hid (show openB key least l b = if openC key least l b = 0 then (b.take (b.length - 8)).drop 8 else [] from rfl)
  have HEN := Lib.hid (show openN key least l b = if openC key least l b = 0 then (bigN (b.take 8) : Int) else 0 from rfl)
  have HEK := Lib.hid (show opnK key least l b = if openC key least l b = 0 then (key, seenS least l (openN key least l b)) else (0, 0, []) from rfl)
  have HSE := Lib.hid (fun (n : Int) w2 (hb2 : Below w.heap.size w w2) => r_seen_any key least n SA l sc B w2 (Nat.le_trans hB hb2.size) hll hSn hl0 (by omega) hs (hS.below (hb2.mono hB)))
  generalize opnK key least l b = RK at *
  generalize openB key least l b = RB at *
  generalize openN key least l b = RN at *
  generalize openC key least l b = C at *
  unfold kyV
  obtain ⟨w1, hw1⟩ : ∃ w1, (w.alloc (.cells (kyC key least (.slice SA l.length sc)) 58)).alloc (.cells (kyC 0 0 (.slice none 0 0)) 58) = w1 := ⟨_, rfl⟩
  have b1 : Below w.heap.size w w1 := by rw [← hw1]; exact two_new w _ _
  have z1 : w1.heap.size = w.heap.size + 2 := by rw [← hw1]; simp
  have g1 : Blk w1 w.heap.size (kyC key least (.slice SA l.length sc)) 58 := by rw [← hw1]; exact (Blk.new w _ _).alloc _
  have gz : Blk w1 (w.heap.size + 1) (kyC 0 0 (.slice none 0 0)) 58 := by rw [← hw1]; exact Blk.snd w _ _ _
  have hgz := gz.lt
  have hS1 := hS.below (b1.mono hB)
  have hb1 := hb.below (b1.mono hB)
  unfold kyC at hw1
  have HW1 := Lib.hid hw1
  have hgl := g1.lt
  obtain ⟨p0, p1, p2⟩ := blk_k g1
  obtain ⟨q0, q1, q2⟩ := blk_k gz
  obtain ⟨e0, e1, e2, -, -, -⟩ := blk_f gz
  have HBW0 := Lib.hid hb
  clear hw1 hS hb hs
  have fault : ∀ F : Int, C = F → F ≠ 0 → RB = [] ∧ RN = 0 ∧ RK = (0, 0, []) := fun F e1 e2 => ⟨by rw [HEB.out, e1, if_neg e2], by rw [HEN.out, e1, if_neg e2], by rw [HEK.out, e1, if_neg e2]⟩
  have HFA := Lib.hid fault
  clear fault
  by_cases h16 : b.length ≤ 16
  · have HC : Hid (C = 9) := Lib.hid (by rw [HE.out, if_pos h16])
    have HR := Lib.hid (HFA.out 9 HC.out (by omega))
    have d1 : decide ((b.length : Int) < 17) = true := decide_eq_true (by omega)
    clear HE HEB HEN HEK h16 HFA HSE
    go_enter Try.func77, Try.ntmps77
    go_upto_region 1 with fail
    rw [HW1.out]
    go_wp2_with fail
    refine bodyPost_ret (v := .tuple #[.agg #[.int .i64 0, .int .i64 0, .slice none 0 0], .slice none 0 0, .int .i64 0, .int .i64 9]) (by simp [results, Try.results77, go_sem, q0, q1, q2]) rfl ?_
    rw [HC.out, HR.out.1, HR.out.2.1, HR.out.2.2]
    exact OpdPost.zero b1
  · by_cases h216 : 216 < b.length
    · have HC : Hid (C = 2) := Lib.hid (by rw [HE.out, if_neg h16, if_pos h216])
      have HR := Lib.hid (HFA.out 2 HC.out (by omega))
      have d1 : decide ((b.length : Int) < 17) = false := decide_eq_false (by omega)
      have d2 : decide ((216 : Int) < (b.length : Int)) = true := decide_eq_true (by omega)
      clear HE HEB HEN HEK h16 h216 HFA HSE
      go_enter Try.func77, Try.ntmps77
      go_upto_region 1 with fail
      rw [HW1.out]
      go_wp2_with fail
      refine bodyPost_ret (v := .tuple #[.agg #[.int .i64 0, .int .i64 0, .slice none 0 0], .slice none 0 0, .int .i64 0, .int .i64 2]) (by simp [results, Try.results77, go_sem, q0, q1, q2]) rfl ?_
      rw [HC.out, HR.out.1, HR.out.2.1, HR.out.2.2]
      exact OpdPost.zero b1
    · obtain ⟨E, hE⟩ : ∃ E, b.length = E + 8 := ⟨b.length - 8, by omega⟩
      have hE1 : b.length - 8 = E := by omega
      rw [hE1] at HE HEB
      obtain ⟨ad, rfl, hab, hc00⟩ := hb1.get 0 (by omega)
      clear hc00
      have hD := (hb1.tail E (by omega))
      obtain ⟨ad2, e2, hD⟩ := hD
      obtain rfl : ad = ad2 := by injection e2
      have hI := hb1.front E
      have hN8 := hb1.front 8
      have hDl : (b.drop E).length = 8 := by simp; omega
      have hIl : (b.take E).length = E := by simp; omega
      have HIL := Lib.hid hIl
      have h8l : (b.take 8).length = 8 := by simp; omega
      obtain ⟨N, hN⟩ : ∃ N, b.length = N := ⟨_, rfl⟩
      have hNE : N = E + 8 := by omega
      have HSG := Lib.hid (fun (w2 : World) (hb2 : Below w1.heap.size w1 w2) => by
        have := r_sign_any key (some ad) (b.take E) c B w2 (by omega) (Nat.le_trans hB (Nat.le_trans b1.size hb2.size)) (hI.below (hb2.mono (Nat.le_trans hB b1.size)))
        rw [hIl] at this
        exact this.mono fun e w' ⟨he, h2⟩ => (⟨he, hb2.trans (h2.mono hb2.size), h2⟩ : e = Ending.returned (.int .u64 ((sgN key (b.take E) : Nat) : Int)) ∧ Below w1.heap.size w1 w' ∧ Below w2.heap.size w2 w'))
      have hNl := bigN_8 (b.drop E) (by omega)
      have hSl := sgN_lt key (b.take E)
      have hD8 : (b.drop E).take 8 = b.drop E := List.take_of_length_le (by omega)
      have HNS := Lib.hid (fun (w2 : World) (hb2 : Below w1.heap.size w1 w2) => by
        have := r_number_any (some (ad.add E)) (b.drop E) (c - E) B w2 (by omega) (by omega) (by omega) (hD.below (hb2.mono (Nat.le_trans hB b1.size)))
        rw [hD8, show (b.drop E).length = N - E by rw [hDl]; omega] at this
        exact this)
      obtain ⟨Q, hQ⟩ : ∃ Q, decide (b.drop E = bigE (sgN key (b.take E)) 8) = Q := ⟨_, rfl⟩
      have hQ2 : ((((sgN key (b.take E) : Nat) : Int)) != ((bigN (b.drop E) : Nat) : Int)) = !Q := by
        rw [← hQ]
        by_cases e : b.drop E = bigE (sgN key (b.take E)) 8
        · rw [decide_eq_true e, e, bigN_bigE 8 _ (by omega)]
          simp
        · rw [decide_eq_false e]
          have : sgN key (b.take E) ≠ bigN (b.drop E) := fun h => e (by rw [h, bigE_bigN 8 _ hDl])
          simp; omega
      have HE2 : Hid (C = if Q = true then (if bigN (b.take 8) ≤ 1000000000 then (if (bigN (b.take 8) : Int) < least ∨ (bigN (b.take 8) : Int) ∈ l then 7 else if least + 64 < (bigN (b.take 8) : Int) then 11 else 0) else 1) else 15) := Lib.hid (by
        rw [HE.out, if_neg h16, if_neg h216, ← hQ]
        simp only [decide_eq_true_eq])
      have hn8 := bigN_8 (b.take 8) (by omega)
      have h8t : (b.take E).take 8 = b.take 8 := by rw [List.take_take, Nat.min_eq_left (by omega)]
      have HNU := Lib.hid (fun (w3 : World) (hb3 : Below w1.heap.size w1 w3) => by
        have := r_number_any (some ad) (b.take E) c B w3 (by omega) (by omega) (by omega) (hI.below (hb3.mono (Nat.le_trans hB b1.size)))
        rw [h8t, hIl] at this
        exact this)
      have HRB : Hid (C = 0 → RB = (b.take E).drop 8) := Lib.hid (fun e => by rw [HEB.out, if_pos e])
      have HRN : Hid (C = 0 → RN = (bigN (b.take 8) : Int) ∧ RK = (key, seenS least l (bigN (b.take 8) : Int))) := Lib.hid (fun e => ⟨by rw [HEN.out, if_pos e], by rw [HEK.out, if_pos e, HEN.out, if_pos e]⟩)
      generalize bigN (b.take 8) = n at *
      generalize sgN key (b.take E) = sg at *
      generalize bigN (b.drop E) = nu at *
      have d1 : decide ((N : Int) < 17) = false := decide_eq_false (by omega)
      have d2 : decide ((216 : Int) < (N : Int)) = false := decide_eq_false (by omega)
      have v1 : IntKind.i64.wrap ((N : Int) - 8) = (E : Int) := by rw [IntWalk.i64_in _ (by omega)]; omega
      have v1' : (N : Int) - 8 = (E : Int) := by omega
      have v1e : IntKind.i64.wrap (E : Int) = (E : Int) := IntWalk.i64_in _ (by omega)
      have v1n : N - 8 = E := by omega
      have hEN : (E : Int) ≤ (N : Int) := by omega
      have hE0 : (0 : Int) ≤ (E : Int) := by omega
      have hEc : ¬ c = E := by omega
      have h8c : ¬ c = 8 := by omega
      have hcI : E ≤ c := by omega
      have hEI : (8 : Int) ≤ (E : Int) := by omega
      have hNc : N ≤ c := by omega
      rw [hN]
      have HQE := Lib.hid hQ
      have hNa : E + 8 ≤ N := by omega
      have hE9 : 9 ≤ E := by omega
      have hNb : N ≤ E + 8 := by omega
      have hNc' : N ≤ 216 := by omega
      clear HE HEB HEN HEK h16 h216 hE hE1 hNE e2 hQ hN hIl hDl h8l hN8 hD8 h8t
      have HSS := Lib.hid (fun (w2 : World) (hb : Below w1.heap.size w1 w2) => (hb.cell hgl).trans p0)
      have hbb : Below w1.heap.size w1 w1 := Below.refl _ _
      go_enter Try.func77, Try.ntmps77
      go_upto_region 1 with fail
      rw [HW1.out]
      go_upto_region 6 with fail
      go_cut [34] (fun s34 wx => s34 = .bool (!Q) ∧ Below w1.heap.size w1 wx)
      case first =>
        go_region_held3 (fun wx => wx.cell? ⟨w.heap.size, 0, none⟩ = some (.int .i64 key))
          (first | with_reducible exact HSS.out _ hbb | with_reducible exact HSS.out _ hbb.drew | with_reducible exact HSS.out _ hb9 | with_reducible exact HSS.out _ hb9.drew | go_keep)
          (first
           | (go_at_call 74
              with_reducible refine (HSG.out _ ?_).mono ?_
              · first | with_reducible exact hbb.drew | with_reducible exact hbb
              rintro e w3 ⟨rfl, hb9, hb3⟩)
           | (go_at_call 100
              with_reducible refine (HNS.out _ ?_).mono ?_
              · first | with_reducible exact hb9.drew | with_reducible exact hb9 | with_reducible exact hbb.drew | with_reducible exact hbb
              rintro e w4 ⟨rfl, rfl⟩))
        all_goals
          go_wp2_with fail
          go_meet
          first | exact ⟨rfl, hb9⟩ | exact ⟨rfl, hb9.drew⟩
      case rest =>
        obtain ⟨rfl, hbc6⟩ := hcut
        have hBW := b1.trans (hbc6.mono b1.size)
        have hBw1 := Nat.le_trans hB b1.size
        have hS6 := hS1.below (hbc6.mono hBw1)
        have g6 := g1.below hbc6 hgl
        have gz6 := gz.below hbc6 hgz
        have HNU6 := Lib.hid (HNU.out wc hbc6)
        clear p0 p1 p2 q0 q1 q2 e0 e1 e2 HSS hbb HSG HNS HNU
        obtain ⟨p0, p1, p2⟩ := blk_k g6
        obtain ⟨q0, q1, q2⟩ := blk_k gz6
        obtain ⟨e0, e1, e2, -, -, -⟩ := blk_f gz6
        cases Q
        · have HC : Hid (C = 15) := Lib.hid (by rw [HE2.out, if_neg (by simp)])
          have HR := Lib.hid (HFA.out 15 HC.out (by omega))
          clear HE2
          go_wp2_with fail
          refine bodyPost_ret (v := .tuple #[.agg #[.int .i64 0, .int .i64 0, .slice none 0 0], .slice none 0 0, .int .i64 0, .int .i64 15]) (by simp [results, Try.results77, go_sem, q0, q1, q2]) rfl ?_
          rw [HC.out, HR.out.1, HR.out.2.1, HR.out.2.2]
          exact OpdPost.zero hBW
        · have HE3 : Hid (C = if n ≤ 1000000000 then (if (n : Int) < least ∨ (n : Int) ∈ l then 7 else if least + 64 < (n : Int) then 11 else 0) else 1) := Lib.hid (by rw [HE2.out, if_pos rfl])
          clear HE2
          by_cases hn : n ≤ 1000000000
          · have d9 : decide ((1000000000 : Int) < (n : Int)) = false := decide_eq_false (by omega)
            have vn : IntKind.i64.wrap (n : Int) = (n : Int) := IntWalk.i64_in _ (by omega)
            have HE4 : Hid (C = if (n : Int) < least ∨ (n : Int) ∈ l then 7 else if least + 64 < (n : Int) then 11 else 0) := Lib.hid (by rw [HE3.out, if_pos hn])
            have hnI : (n : Int) ≤ 1000000000 := by omega
            have hnI0 : (0 : Int) ≤ (n : Int) := by omega
            have HCO := Lib.hid (contains_any SA sc l (n : Int) B wc (by omega) hS6)
            clear HE3 hn
            by_cases h7 : (n : Int) < least
            · have HC : Hid (C = 7) := Lib.hid (by rw [HE4.out, if_pos (.inl h7)])
              have HR := Lib.hid (HFA.out 7 HC.out (by omega))
              have d7 : decide ((n : Int) < least) = true := decide_eq_true h7
              clear HE4 h7
              go_wp2_with (first | (go_at_call 100; with_reducible refine HNU6.out.mono ?_; rintro e w5 ⟨rfl, rfl⟩) | fail)
              refine bodyPost_ret (v := .tuple #[.agg #[.int .i64 0, .int .i64 0, .slice none 0 0], .slice none 0 0, .int .i64 0, .int .i64 7]) (by simp [results, Try.results77, go_sem, q0, q1, q2]) rfl ?_
              rw [HC.out, HR.out.1, HR.out.2.1, HR.out.2.2]
              exact OpdPost.zero hBW
            · have d7 : decide ((n : Int) < least) = false := decide_eq_false h7
              by_cases h8 : (n : Int) ∈ l
              · have HC : Hid (C = 7) := Lib.hid (by rw [HE4.out, if_pos (.inr h8)])
                have HR := Lib.hid (HFA.out 7 HC.out (by omega))
                have hd8 : decide ((n : Int) ∈ l) = true := decide_eq_true h8
                rw [hd8] at HCO
                clear HE4 h7 h8 hd8
                go_wp2_with (first | (go_at_call 100; with_reducible refine HNU6.out.mono ?_; rintro e w5 ⟨rfl, rfl⟩) | (go_at_call 37; with_reducible refine HCO.out.mono ?_; rintro e w5 ⟨rfl, rfl⟩) | fail)
                refine bodyPost_ret (v := .tuple #[.agg #[.int .i64 0, .int .i64 0, .slice none 0 0], .slice none 0 0, .int .i64 0, .int .i64 7]) (by simp [results, Try.results77, go_sem, q0, q1, q2]) rfl ?_
                rw [HC.out, HR.out.1, HR.out.2.1, HR.out.2.2]
                exact OpdPost.zero hBW
              · have hd8 : decide ((n : Int) ∈ l) = false := decide_eq_false h8
                rw [hd8] at HCO
                have h78 : ¬ ((n : Int) < least ∨ (n : Int) ∈ l) := fun q => q.elim h7 h8
                by_cases h11 : least + 64 < (n : Int)
                · have HC : Hid (C = 11) := Lib.hid (by rw [HE4.out, if_neg h78, if_pos h11])
                  have HR := Lib.hid (HFA.out 11 HC.out (by omega))
                  have d11 : decide (least + 64 < (n : Int)) = true := decide_eq_true h11
                  clear HE4 h7 h8 hd8 h78 h11
                  go_wp2_with (first | (go_at_call 100; with_reducible refine HNU6.out.mono ?_; rintro e w5 ⟨rfl, rfl⟩) | (go_at_call 37; with_reducible refine HCO.out.mono ?_; rintro e w5 ⟨rfl, rfl⟩) | fail)
                  refine bodyPost_ret (v := .tuple #[.agg #[.int .i64 0, .int .i64 0, .slice none 0 0], .slice none 0 0, .int .i64 0, .int .i64 11]) (by simp [results, Try.results77, go_sem, q0, q1, q2]) rfl ?_
                  rw [HC.out, HR.out.1, HR.out.2.1, HR.out.2.2]
                  exact OpdPost.zero hBW
                · have HC : Hid (C = 0) := Lib.hid (by rw [HE4.out, if_neg h78, if_neg h11])
                  have HR1 := Lib.hid (HRB.out HC.out)
                  have HR2 := Lib.hid (HRN.out HC.out)
                  have d11 : decide (least + 64 < (n : Int)) = false := decide_eq_false h11
                  clear HE4 h7 h8 hd8 h78 h11
                  go_upto_region 16 with (first | (go_at_call 100; with_reducible refine HNU6.out.mono ?_; rintro e w5 ⟨rfl, rfl⟩) | (go_at_call 37; with_reducible refine HCO.out.mono ?_; rintro e w5 ⟨rfl, rfl⟩) | fail)
                  have hP0 := g6.lt
                  have hP1 := gz6.lt
                  have hzc : w.heap.size + 2 ≤ wc.heap.size := by have := hbc6.size; omega
                  have HSE7 := Lib.hid (fun (w2 : World) (hb2 : Below w.heap.size w w2) (hs2 : wc.heap.size ≤ w2.heap.size) => by
                    have h := HSE.out n w2 hb2
                    unfold SeenPost kyV at h
                    exact h.mono fun e w' ⟨A7, c7, he, hr, hlc, hn, hf, h8⟩ => (⟨A7, c7, he, hr, hlc, hn, fun ad q => by have := hf ad q; have := gz6.lt; omega, hb2.trans (h8.mono hb2.size), Nat.le_trans hs2 h8.size, fun k => h8.cell (p := ⟨w.heap.size, k, none⟩) (Nat.lt_of_lt_of_le hP0 hs2), fun k => h8.frozen (p := ⟨w.heap.size + 1, k, none⟩) (Nat.lt_of_lt_of_le hP1 hs2), fun k => h8.cell (p := ⟨w.heap.size + 1, k, none⟩) (Nat.lt_of_lt_of_le hP1 hs2), Lib.hid (fun C t (g : Blk w2 (w.heap.size + 1) C t) => g.below h8 (Nat.lt_of_lt_of_le hP1 hs2)), h8⟩ : ∃ A7 c7, e = Ending.returned (.agg #[.int .i64 key, .int .i64 (seenS least l n).1, .slice A7 (seenS least l n).2.length c7]) ∧ IR w' w'.heap.size A7 (seenS least l n).2 ∧ (seenS least l n).2.length ≤ c7 ∧ (A7 = none → c7 = 0) ∧ (∀ ad, A7 = some ad → w.heap.size + 1 < ad.block) ∧ Below w.heap.size w w' ∧ wc.heap.size ≤ w'.heap.size ∧ (∀ k, w'.cell? ⟨w.heap.size, k, none⟩ = w2.cell? ⟨w.heap.size, k, none⟩) ∧ (∀ k, w'.frozen? ⟨w.heap.size + 1, k, none⟩ = w2.frozen? ⟨w.heap.size + 1, k, none⟩) ∧ (∀ k, w'.cell? ⟨w.heap.size + 1, k, none⟩ = w2.cell? ⟨w.heap.size + 1, k, none⟩) ∧ Hid (∀ (C : Array Value) t, Blk w2 (w.heap.size + 1) C t → Blk w' (w.heap.size + 1) C t) ∧ Below w2.heap.size w2 w'))
                  have HCL7 := Lib.hid (fun (w2 : World) (hb2 : Below w.heap.size w w2) (hs2 : wc.heap.size ≤ w2.heap.size) => by
                    obtain ⟨ad3, e3, hM⟩ := (((HBW0.out.below (hb2.mono hB)).lift (Nat.le_trans hB hb2.size)).front E).tail 8 (by rw [HIL.out]; omega)
                    obtain rfl : ad = ad3 := by injection e3
                    have hMl : ((b.take E).drop 8).length = E - 8 := by rw [List.length_drop, HIL.out]
                    exact (clone_any (some ⟨ad.block, ad.off + 8, none⟩) (E - 8) (c - 8) ((b.take E).drop 8) w2 hMl.symm (by rw [hMl]; omega) hM).mono fun e w' ⟨v, he, ho, h8⟩ => (⟨v, he, ho, hb2.trans (h8.mono hb2.size), Nat.le_trans hs2 h8.size, fun k => h8.cell (p := ⟨w.heap.size, k, none⟩) (Nat.lt_of_lt_of_le hP0 hs2), fun k => h8.frozen (p := ⟨w.heap.size + 1, k, none⟩) (Nat.lt_of_lt_of_le hP1 hs2), fun k => h8.cell (p := ⟨w.heap.size + 1, k, none⟩) (Nat.lt_of_lt_of_le hP1 hs2), Lib.hid (fun C t (g : Blk w2 (w.heap.size + 1) C t) => g.below h8 (Nat.lt_of_lt_of_le hP1 hs2)), h8⟩ : ∃ v, e = Ending.returned v ∧ Own w' w2.heap.size v ((b.take E).drop 8) ∧ Below w.heap.size w w' ∧ wc.heap.size ≤ w'.heap.size ∧ (∀ k, w'.cell? ⟨w.heap.size, k, none⟩ = w2.cell? ⟨w.heap.size, k, none⟩) ∧ (∀ k, w'.frozen? ⟨w.heap.size + 1, k, none⟩ = w2.frozen? ⟨w.heap.size + 1, k, none⟩) ∧ (∀ k, w'.cell? ⟨w.heap.size + 1, k, none⟩ = w2.cell? ⟨w.heap.size + 1, k, none⟩) ∧ Hid (∀ (C : Array Value) t, Blk w2 (w.heap.size + 1) C t → Blk w' (w.heap.size + 1) C t) ∧ Below w2.heap.size w2 w'))
                  generalize seenS least l n = R at *
                  generalize (b.take E).drop 8 = OB at *
                  go_cut [5, 6, 7] (fun s5 s6 s7 wx => OpnEnd key R OB n w s5 s6 s7 wx)
                  case first =>
                    go_region_held3 (fun wx => wx.cell? ⟨w.heap.size, 0, none⟩ = some (.int .i64 key) ∧ wx.cell? ⟨w.heap.size, 1, none⟩ = some (.int .i64 least) ∧ wx.cell? ⟨w.heap.size, 2, none⟩ = some (.slice SA l.length sc) ∧ wx.frozen? ⟨w.heap.size + 1, 0, none⟩ = false ∧ wx.frozen? ⟨w.heap.size + 1, 1, none⟩ = false ∧ wx.frozen? ⟨w.heap.size + 1, 2, none⟩ = false)
                      (first | exact ⟨p0, p1, p2, e0, e1, e2⟩ | go_keep | (refine ⟨?_, ?_, ?_, ?_, ?_, ?_⟩ <;> first | (rw [hk7]; first | assumption | exact p0 | exact p1 | exact p2) | (rw [hk8]; first | assumption | exact p0 | exact p1 | exact p2) | (rw [hx7]; first | assumption | exact e0 | exact e1 | exact e2) | (rw [hx8]; first | assumption | exact e0 | exact e1 | exact e2)))
                      (first
                       | (go_at_call 101
                          with_reducible refine (HSE7.out _ ?_ ?_).mono ?_
                          · first | with_reducible exact hw8.drew | with_reducible exact hw8 | with_reducible exact hBW.drew | with_reducible exact hBW
                          · first | exact hz8 | exact Nat.le_refl _
                          rintro e w7 ⟨A7, c7, rfl, hr7, hlc7, hn7, hf7, hw7, hz7, hk7, hx7, hy7, hB7, hb7⟩)
                       | (go_at_call 80
                          with_reducible refine (HCL7.out _ ?_ ?_).mono ?_
                          · first | with_reducible exact hw7.drew | with_reducible exact hw7 | with_reducible exact hBW.drew | with_reducible exact hBW | exact ((hw7.setCell (Nat.le_succ _) _).setCell (Nat.le_succ _) _).setCell (Nat.le_succ _) _ | exact (((hw7.setCell (Nat.le_succ _) _).setCell (Nat.le_succ _) _).setCell (Nat.le_succ _) _).drew
                          · first | exact hz7 | exact Nat.le_refl _ | (simp; exact hz7) | (simp; omega)
                          rintro e w8 ⟨v8, rfl, ho8, hw8, hz8, hk8, hx8, hy8, hB8, hb8⟩))
                    all_goals
                      go_wp2_with fail
                      go_meet
                      first
                      | exact OpnEnd.last (hB8.out _ _ (hB7.out _ _ gz6)) ((hr7.below hb8).lift hb8.size) hlc7 hn7 hf7 (ho8.lower (Nat.le_trans hzc hz7)) hw8
                      | exact OpnEnd.last (hB7.out _ _ (hB8.out _ _ gz6)) hr7 hlc7 hn7 hf7 ((ho8.lower hzc).after hb7 (Nat.le_refl _)) hw7
                      | exact OpnEnd.mid rfl (hB7.out _ _ gz6) hr7 hlc7 hn7 hf7 hw7 hb8 ho8
                  case rest =>
                    obtain ⟨rfl, rfl, A9, c9, h91, h92, h93, h94, h95, h96, h97⟩ := hcut
                    obtain ⟨q0, q1, q2⟩ := blk_k h91
                    go_wp2_with fail
                    refine bodyPost_ret (v := .tuple #[.agg #[.int .i64 key, .int .i64 R.1, .slice A9 R.2.length c9], u5, .int .i64 n, .int .i64 0]) (by simp [results, Try.results77, go_sem, q0, q1, q2]) rfl ?_
                    rw [HC.out, HR1.out, HR2.out.1, HR2.out.2]
                    exact ⟨A9, c9, u5, rfl, h92, h93, h94, h95, h96, h97⟩
          · have d9 : decide ((1000000000 : Int) < (n : Int)) = true := decide_eq_true (by omega)
            have HC : Hid (C = 1) := Lib.hid (by rw [HE3.out, if_neg hn])
            have HR := Lib.hid (HFA.out 1 HC.out (by omega))
            clear HE3 hn
            go_wp2_with (first | (go_at_call 100; with_reducible refine HNU6.out.mono ?_; rintro e w5 ⟨rfl, rfl⟩) | fail)
            refine bodyPost_ret (v := .tuple #[.agg #[.int .i64 0, .int .i64 0, .slice none 0 0], .slice none 0 0, .int .i64 0, .int .i64 1]) (by simp [results, Try.results77, go_sem, q0, q1, q2]) rfl ?_
            rw [HC.out, HR.out.1, HR.out.2.1, HR.out.2.2]
            exact OpdPost.zero hBW
end Go.Proofs.Yteikggieekhfkaa
