/- the walk of the program's send: the next command comes to the board, if it isn't lost. -/
import Derived.Test.YteikggieekhfkaaOwnT
import Derived.Test.YteikggieekhfkaaNxt
import Derived.Test.YteikggieekhfkaaBase
import Derived.Deep.RegionLaw
import Derived.Deep.RegionHeld3
import Derived.Deep.DeepCutAuto
namespace Go.Proofs.Yteikggieekhfkaa
open Go.RowKit

attribute [local go_sem] setCell_draws alloc_draws
/-- block P holds both sides; bodies lie below B -/
def Holds (w : World) (P B : Nat) (x : LS) : Prop :=
  ∃ A c TV, Blk w P (linC x.b.n x.b.v x.b.L x.b.R x.b.T x.b.k x.f (x.s : Int) (.slice A x.q.length c) x.wd x.st TV) 90 ∧ QR w B A x.q ∧ x.q.length ≤ c ∧ (A = none → c = 0) ∧ OwnT w (P + 1) B TV x.tk
def SidePost (P B : Nat) (x : LS) (F : Int) (w : World) (e : Ending) (w' : World) : Prop := e = .returned (.int .i64 F) ∧ (F = 0 → Holds w' P B x) ∧ Below P w w'
/-- all blocks but P and a row's own are as they were -/
def Fr (P : Nat) (v : Value) (w w' : World) : Prop := ∀ g, g < w.heap.size → g ≠ P → v.ownBlock ≠ some g → w'.heap[g]? = w.heap[g]?
theorem Fr.of {P : Nat} {v : Value} {w w' : World} (h : Below w.heap.size w w') : Fr P v w w' := fun g hg _ _ => h.block g hg
theorem Fr.set {P k : Nat} {v u : Value} {w w' : World} (h : Fr P v w w') : Fr P v w (w'.setCell ⟨P, k, none⟩ u) := fun g hg hP hv =>
  (Below.heap_setCell w' ⟨P, k, none⟩ u g (by show g ≠ P; exact hP)).trans (h g hg hP hv)
theorem Fr.step {P : Nat} {v : Value} {w w1 w2 : World} (h : Fr P v w w1) (hz : w.heap.size ≤ w1.heap.size) (hb : Below w1.heap.size w1 w2) : Fr P v w w2 := fun g hg hP hv => (hb.block g (by omega)).trans (h g hg hP hv)
theorem Fr.grow {P : Nat} {v : Value} {w w1 w2 : World} (h : Fr P v w w1) (hz : w.heap.size ≤ w1.heap.size) (hb : w1.grownBy w2 v.ownBlock) : Fr P v w w2 := fun g hg hP hv => (hb.block g (by omega) (fun e => hv e.symm)).trans (h g hg hP hv)
theorem Fr.five {P : Nat} {v : Value} {w w' : World} (h : Fr P v w w') (j0 j1 j2 j3 j4 : Nat) (a0 a1 a2 a3 a4 : Value) :
    Fr P v w (((((w'.setCell ⟨P, j0, none⟩ a0).setCell ⟨P, j1, none⟩ a1).setCell ⟨P, j2, none⟩ a2).setCell ⟨P, j3, none⟩ a3).setCell ⟨P, j4, none⟩ a4) := ((((h.set).set).set).set).set
theorem Fr.six {P : Nat} {v : Value} {w w' : World} (h : Fr P v w w') (a0 a1 a2 a3 a4 a5 : Value) :
    Fr P v w ((((((w'.setCell ⟨P, 0, none⟩ a0).setCell ⟨P, 1, none⟩ a1).setCell ⟨P, 2, none⟩ a2).setCell ⟨P, 3, none⟩ a3).setCell ⟨P, 4, none⟩ a4).setCell ⟨P, 5, none⟩ a5) := (((((h.set).set).set).set).set).set
theorem Blk.ground {w : World} {g : Nat} {n v : Int} {L R T : Bool} {k f s : Int} {Q : Value} {wd : Int} {st : Bool} {TK : Value} {t : TypeId} (h : Blk w g (linC n v L R T k f s Q wd st TK) t) (f' s' : Int) (Q' : Value) (wd' : Int) (st' : Bool) :
    Blk (((((w.setCell ⟨g, 6, none⟩ (.int .i64 f')).setCell ⟨g, 7, none⟩ (.int .i64 s')).setCell ⟨g, 8, none⟩ Q').setCell ⟨g, 9, none⟩ (.int .i64 wd')).setCell ⟨g, 10, none⟩ (.bool st')) g (linC n v L R T k f' s' Q' wd' st' TK) t :=
  ((((h.set1 6 _).set1 7 _).set1 8 _).set1 9 _).set1 10 _
theorem Blk.board {w : World} {g : Nat} {n v : Int} {L R T : Bool} {k f s : Int} {Q : Value} {wd : Int} {st : Bool} {TK : Value} {t : TypeId} (h : Blk w g (linC n v L R T k f s Q wd st TK) t) (n' v' : Int) (L' R' T' : Bool) (k' : Int) :
    Blk ((((((w.setCell ⟨g, 0, none⟩ (.int .i64 n')).setCell ⟨g, 1, none⟩ (.int .i64 v')).setCell ⟨g, 2, none⟩ (.bool L')).setCell ⟨g, 3, none⟩ (.bool R')).setCell ⟨g, 4, none⟩ (.bool T')).setCell ⟨g, 5, none⟩ (.int .i64 k')) g (linC n' v' L' R' T' k' f s Q wd st TK) t :=
  (((((h.set1 0 _).set1 1 _).set1 2 _).set1 3 _).set1 4 _).set1 5 _
theorem five_at {w w' : World} {g B : Nat} (hb : Below B w w') (hg : B ≤ g) (j0 j1 j2 j3 j4 : Nat) (a0 a1 a2 a3 a4 : Value) :
    Below B w (((((w'.setCell ⟨g, j0, none⟩ a0).setCell ⟨g, j1, none⟩ a1).setCell ⟨g, j2, none⟩ a2).setCell ⟨g, j3, none⟩ a3).setCell ⟨g, j4, none⟩ a4) :=
  ((((hb.setCell hg _).setCell hg _).setCell hg _).setCell hg _).setCell hg _
theorem own_five {w : World} {P B : Nat} {v : Value} {tk : List (List UInt8)} (h : OwnT w (P + 1) B v tk) (hB : B ≤ P) (j0 j1 j2 j3 j4 : Nat) (a0 a1 a2 a3 a4 : Value) :
    OwnT (((((w.setCell ⟨P, j0, none⟩ a0).setCell ⟨P, j1, none⟩ a1).setCell ⟨P, j2, none⟩ a2).setCell ⟨P, j3, none⟩ a3).setCell ⟨P, j4, none⟩ a4) (P + 1) B v tk :=
  ((((h.set (Nat.lt_succ_self P) hB).set (Nat.lt_succ_self P) hB).set (Nat.lt_succ_self P) hB).set (Nat.lt_succ_self P) hB).set (Nat.lt_succ_self P) hB
theorem Blk.set6 {w : World} {g : Nat} {n v : Int} {L R T : Bool} {k : Int} {t : TypeId} (h : Blk w g (uplC n v L R T k) t) (n' v' : Int) (L' R' T' : Bool) (k' : Int) :
    Blk ((((((w.setCell ⟨g, 0, none⟩ (.int .i64 n')).setCell ⟨g, 1, none⟩ (.int .i64 v')).setCell ⟨g, 2, none⟩ (.bool L')).setCell ⟨g, 3, none⟩ (.bool R')).setCell ⟨g, 4, none⟩ (.bool T')).setCell ⟨g, 5, none⟩ (.int .i64 k')) g (uplC n' v' L' R' T' k') t :=
  (((((h.set1 0 _).set1 1 _).set1 2 _).set1 3 _).set1 4 _).set1 5 _
theorem own_six {w : World} {P B : Nat} {v : Value} {tk : List (List UInt8)} (h : OwnT w (P + 1) B v tk) (hB : B ≤ P) (a0 a1 a2 a3 a4 a5 : Value) :
    OwnT ((((((w.setCell ⟨P, 0, none⟩ a0).setCell ⟨P, 1, none⟩ a1).setCell ⟨P, 2, none⟩ a2).setCell ⟨P, 3, none⟩ a3).setCell ⟨P, 4, none⟩ a4).setCell ⟨P, 5, none⟩ a5) (P + 1) B v tk :=
  (((((h.set (Nat.lt_succ_self P) hB).set (Nat.lt_succ_self P) hB).set (Nat.lt_succ_self P) hB).set (Nat.lt_succ_self P) hB).set (Nat.lt_succ_self P) hB).set (Nat.lt_succ_self P) hB
theorem blk_f12 {w : World} {g : Nat} {C : Array Value} {t : TypeId} (h : Blk w g C t) : (w.frozen? ⟨g, 0, none⟩ = false ∧ w.frozen? ⟨g, 1, none⟩ = false ∧ w.frozen? ⟨g, 2, none⟩ = false ∧ w.frozen? ⟨g, 3, none⟩ = false ∧ w.frozen? ⟨g, 4, none⟩ = false ∧ w.frozen? ⟨g, 5, none⟩ = false) ∧
    w.frozen? ⟨g, 6, none⟩ = false ∧ w.frozen? ⟨g, 7, none⟩ = false ∧ w.frozen? ⟨g, 8, none⟩ = false ∧ w.frozen? ⟨g, 9, none⟩ = false ∧ w.frozen? ⟨g, 10, none⟩ = false ∧ w.frozen? ⟨g, 11, none⟩ = false :=
  ⟨⟨h.free 0, h.free 1, h.free 2, h.free 3, h.free 4, h.free 5⟩, h.free 6, h.free 7, h.free 8, h.free 9, h.free 10, h.free 11⟩
set_option maxRecDepth 100000 in
set_option maxHeartbeats 4000000 in
theorem send_no (n v : Int) (L R T : Bool) (k f : Int) (S : Nat) (A : Option Addr) (q : List (List UInt8)) (c : Nat) (wd : Int) (st : Bool) (TV : Value) (tk : List (List UInt8)) (P B : Nat) (lost : Bool) (w : World)
    (hP : Blk w P (linC n v L R T k f S (.slice A q.length c) wd st TV) 90) (hQ : QR w B A q) (hc : q.length ≤ c) (hA : A = none → c = 0) (hT : OwnT w (P + 1) B TV tk) (hB : B ≤ P)
    (hno : noNext ⟨⟨n, v, L, R, T, k⟩, f, S, q, wd, st, tk⟩) :
    Calls Try.prog 90 #[.pointer (some ⟨P, 0, none⟩), .bool lost] w (fun e w' => SidePost P B ⟨⟨n, v, L, R, T, k⟩, f, S, q, wd, st, tk⟩ 0 w e w' ∧ Fr P TV w w') := by
  have HN := Lib.hid (fun w => p_next_no f S A q.length c wd st w hno)
  unfold grdV ordV at HN
  have hPl := hP.lt
  obtain ⟨-, ⟨l6, l7, l8, l9, l10⟩, -⟩ := blk_l hP
  have HPP := Lib.hid hP
  have HQ := Lib.hid hQ
  have HT := Lib.hid hT
  clear hP hQ hT hno
  go_enter Try.func90, Try.ntmps90
  go_wp2_with fail
  refine (HN.out _).mono ?_
  rintro e w1 ⟨rfl, hb1⟩
  go_wp2_with fail
  go_ret
  have b2 : Below w.heap.size w ((w1.alloc (.cells (grdC 0 0 (.slice none 0 0) 0 false) 41)).alloc (.cells (ordC 0 0 none 0 0) 26)) := (hb1.alloc hb1.size _).alloc (by simp; have := hb1.size; omega) _
  exact ⟨⟨rfl, fun _ => ⟨A, c, TV, HPP.out.below b2 hPl, HQ.out.below (b2.mono (by omega)), hc, hA, HT.out.after b2 (by omega)⟩, b2.mono (by omega)⟩, Fr.of b2⟩
set_option maxRecDepth 100000 in
set_option maxHeartbeats 8000000 in
theorem send_yes (n v : Int) (L R T : Bool) (k f : Int) (S : Nat) (A : Option Addr) (q : List (List UInt8)) (c : Nat) (wd : Int) (TV : Value) (tk : List (List UInt8)) (P B : Nat) (lost : Bool) (w : World)
    (hP : Blk w P (linC n v L R T k f S (.slice A q.length c) wd false TV) 90) (hQ : QR w B A q) (hc : q.length ≤ c) (hA : A = none → c = 0) (hT : OwnT w (P + 1) B TV tk) (hB : B ≤ P)
    (hb : BrdOk n v k) (hg : GndOk f S q wd) (hS : S < q.length) (hw : (S : Int) < wd) (htk : tk.length ≤ 100000) (m : Int) (hm : m = (f + (S : Int)) % 256) (x' : LS) (F : Int)
    (HX : Hid (x' = if lost = true then ⟨⟨n, v, L, R, T, k⟩, f, S + 1, q, wd, false, tk⟩ else ⟨(plainS ⟨n, v, L, R, T, k⟩ m).1, f, S + 1, q, wd, false, if (plainS ⟨n, v, L, R, T, k⟩ m).2 = 1 then tk ++ [q[S]] else tk⟩))
    (HF : Hid (F = if lost = true then 0 else if 1000000 < (plainS ⟨n, v, L, R, T, k⟩ m).1.k then 16 else 0)) :
    Calls Try.prog 90 #[.pointer (some ⟨P, 0, none⟩), .bool lost] w (fun e w' => SidePost P B x' F w e w' ∧ Fr P TV w w') := by
  have hPl := hP.lt
  have HN := Lib.hid (fun (w1 : World) (hb : Below w.heap.size w w1) => p_next_yes f S A q c wd B w1 (Nat.le_trans (Nat.le_trans hB (Nat.le_of_lt hPl)) hb.size) (hQ.below (hb.mono (by omega))) hg.f0 hg.f1 hg.few hS hw hg.w1)
  have hm01 : 0 ≤ m ∧ m ≤ 255 := by omega
  have hbz : bodS q[S].length = 0 := hg.bod _ (List.getElem_mem hS)
  have HTK := Lib.hid (fun (X : Option Addr) (kx : Nat) (w : World) => by have := p_Take_any n v L R T k 1 m X q[S].length kx w; rw [take_plain hb hm01.1 hm01.2 hbz] at this; exact this)
  rw [← hm] at HN
  generalize plainS ⟨n, v, L, R, T, k⟩ m = Z at *
  obtain ⟨⟨n', v', L', R', T', k'⟩, u⟩ := Z
  simp only at HTK HX HF
  obtain ⟨l05, ⟨l6, l7, l8, l9, l10⟩, l11⟩ := blk_l hP
  obtain ⟨-, f6, f7, f8, f9, f10, f11⟩ := blk_f12 hP
  obtain ⟨bd, hbd⟩ : ∃ bd, q[S] = bd := ⟨_, rfl⟩
  rw [hbd] at HN HTK hbz HX
  unfold grdV ordV at HN
  unfold ordV at HTK
  have HPP := Lib.hid hP
  have HQ := Lib.hid hQ
  have HT := Lib.hid hT
  have HG := Lib.hid hg
  clear hP hQ hT hbd hg hbz hm hb
  cases lost
  · have hR : ∃ y1 y2 : Int, ∃ yb : Upl, (if 1000000 < k' then (zeroU, (0 : Int), (16 : Int)) else ((⟨n', v', L', R', T', k'⟩ : Upl), u, 0)) = (yb, y1, y2) := ⟨_, _, _, rfl⟩
    obtain ⟨y1, y2, ⟨yn, yv, yL, yR, yT, yk⟩, hy⟩ := hR
    rw [hy] at HTK
    unfold Upl.val at HTK
    unfold uplV at HTK
    simp only at HTK
    have HY := Lib.hid hy
    clear hy
    go_enter Try.func90, Try.ntmps90
    go_wp2_with fail
    refine (HN.out _ (Below.refl _ _)).mono ?_
    rintro e w1 ⟨X, kx, rfl, hrx, hb1⟩
    have hP1 := HPP.out.below hb1 hPl
    clear l05 l6 l7 l8 l9 l10 l11 f6 f7 f8 f9 f10 f11 HN
    obtain ⟨-, ⟨l6, l7, l8, l9, l10⟩, -⟩ := blk_l hP1
    obtain ⟨-, f6, f7, f8, f9, f10, -⟩ := blk_f12 hP1
    have hlt : P < w1.heap.size := hP1.lt
    have hT1 := HT.out.after hb1 (by omega)
    have hQ1 := HQ.out.below (hb1.mono (by omega))
    have bP : Below P w w1 := hb1.mono (by omega)
    have b5 := five_at bP (Nat.le_refl P) 6 7 8 9 10 (.int .i64 f) (.int .i64 ((S : Int) + 1)) (.slice A q.length c) (.int .i64 wd) (.bool false)
    have bQ := five_at (Below.refl P w1) (Nat.le_refl P) 6 7 8 9 10 (.int .i64 f) (.int .i64 ((S : Int) + 1)) (.slice A q.length c) (.int .i64 wd) (.bool false)
    have t5 := own_five hT1 hB 6 7 8 9 10 (.int .i64 f) (.int .i64 ((S : Int) + 1)) (.slice A q.length c) (.int .i64 wd) (.bool false)
    have g5 := hP1.ground f ((S : Int) + 1) (.slice A q.length c) wd false
    have q5 := hQ1.below (bQ.mono hB)
    have x5 := (hrx.below (bP.mono hB)).below (bQ.mono hB)
    obtain ⟨w5, hw5⟩ : ∃ w5, ((((w1.setCell ⟨P, 6, none⟩ (.int .i64 f)).setCell ⟨P, 7, none⟩ (.int .i64 ((S : Int) + 1))).setCell ⟨P, 8, none⟩ (.slice A q.length c)).setCell ⟨P, 9, none⟩ (.int .i64 wd)).setCell ⟨P, 10, none⟩ (.bool false) = w5 := ⟨_, rfl⟩
    have z5 : w5.heap.size = w1.heap.size := by rw [← hw5]; simp
    rw [hw5] at b5 t5 g5 q5 x5
    clear hT1 hQ1 bP bQ hP1
    obtain ⟨wy, hwy⟩ : ∃ wy, (w5.alloc (.cells (grdC f ((S : Int) + 1) (.slice A q.length c) wd false) 41)).alloc (.cells (ordC 1 m X bd.length kx) 26) = wy := ⟨_, rfl⟩
    have by5 : Below w5.heap.size w5 wy := by rw [← hwy]; exact two_new w5 _ _
    have hy : Below P w wy := by exact b5.trans (by5.mono (by omega))
    have frY : Hid (Fr P TV w wy) := Lib.hid (by have h5 := (Fr.of (P := P) (v := TV) hb1).five 6 7 8 9 10 (.int .i64 f) (.int .i64 ((S : Int) + 1)) (.slice A q.length c) (.int .i64 wd) (.bool false); rw [hw5] at h5; exact h5.step (by rw [z5]; exact hb1.size) by5)
    have gP : Blk wy P (linC n v L R T k f ((S : Int) + 1) (.slice A q.length c) wd false TV) 90 := g5.below by5 g5.lt
    have gO : Blk wy (w1.heap.size + 1) (ordC 1 m X bd.length kx) 26 := by rw [← hwy, ← z5]; exact Blk.snd w5 _ _ _
    have tY : OwnT wy (P + 1) B TV tk := t5.after by5 (by omega)
    have qY : QR wy B A q := q5.below (by5.mono (by omega))
    have xY : BR wy B X bd := x5.below (by5.mono (by omega))
    rw [← hw5] at hwy
    unfold grdC ordC at hwy
    clear b5 t5 g5 q5 x5 by5 hw5
    go_upto_region 7 with fail
    clear hwy l6 l7 l8 l9 l10 f6 f7 f8 f9 f10
    obtain ⟨⟨l0, l1, l2, l3, l4, l5⟩, -, -⟩ := blk_l gP
    obtain ⟨o0, o1, o2⟩ := blk_o gO
    have hPy := gP.lt
    have hOy := gO.lt
    have HSS := Lib.hid (fun (w1' : World) (hb : Below wy.heap.size wy w1') => (⟨⟨(hb.cell hPy).trans l0, (hb.cell hPy).trans l1, (hb.cell hPy).trans l2, (hb.cell hPy).trans l3, (hb.cell hPy).trans l4, (hb.cell hPy).trans l5⟩, (hb.cell hOy).trans o0, (hb.cell hOy).trans o1, (hb.cell hOy).trans o2⟩ : (w1'.cell? ⟨P, 0, none⟩ = some (.int .i64 n) ∧ w1'.cell? ⟨P, 1, none⟩ = some (.int .i64 v) ∧ w1'.cell? ⟨P, 2, none⟩ = some (.bool L) ∧ w1'.cell? ⟨P, 3, none⟩ = some (.bool R) ∧ w1'.cell? ⟨P, 4, none⟩ = some (.bool T) ∧ w1'.cell? ⟨P, 5, none⟩ = some (.int .i64 k)) ∧
      w1'.cell? ⟨w1.heap.size + 1, 0, none⟩ = some (.int .i64 1) ∧ w1'.cell? ⟨w1.heap.size + 1, 1, none⟩ = some (.int .i64 m) ∧ w1'.cell? ⟨w1.heap.size + 1, 2, none⟩ = some (.slice X bd.length kx)))
    have HTC := Lib.hid (fun (w1' : World) (hb : Below wy.heap.size wy w1') => (HTK.out X kx w1').mono fun e w' ⟨he, h2⟩ => (⟨he, hb.trans (h2.mono hb.size), h2⟩ : e = Ending.returned (.tuple #[.agg #[.int .i64 yn, .int .i64 yv, .bool yL, .bool yR, .bool yT, .int .i64 yk], .int .i64 y1, .int .i64 y2]) ∧ Below wy.heap.size wy w' ∧ Below w1'.heap.size w1' w'))
    have hbb : Below wy.heap.size wy wy := Below.refl _ _
    have hlt0 : wy.heap.size < (wy.alloc (.cells (uplC 0 0 false false false 0) 23)).drew.heap.size := by show wy.heap.size < (wy.alloc _).heap.size; rw [World.size_alloc]; omega
    clear HTK
    go_cut [8, 9, 10] (fun s8 s9 s10 wx => ∃ G : Nat, s8 = .pointer (some ⟨G, 0, none⟩) ∧ s9 = .int .i64 y1 ∧ s10 = .int .i64 y2 ∧ Blk wx G (uplC yn yv yL yR yT yk) 23 ∧ wy.heap.size ≤ G ∧ Below wy.heap.size wy wx)
    case first =>
      go_region_held3 (fun w1' => (w1'.cell? ⟨P, 0, none⟩ = some (.int .i64 n) ∧ w1'.cell? ⟨P, 1, none⟩ = some (.int .i64 v) ∧ w1'.cell? ⟨P, 2, none⟩ = some (.bool L) ∧ w1'.cell? ⟨P, 3, none⟩ = some (.bool R) ∧ w1'.cell? ⟨P, 4, none⟩ = some (.bool T) ∧ w1'.cell? ⟨P, 5, none⟩ = some (.int .i64 k)) ∧
          w1'.cell? ⟨w1.heap.size + 1, 0, none⟩ = some (.int .i64 1) ∧ w1'.cell? ⟨w1.heap.size + 1, 1, none⟩ = some (.int .i64 m) ∧ w1'.cell? ⟨w1.heap.size + 1, 2, none⟩ = some (.slice X bd.length kx))
        (first | with_reducible exact HSS.out _ hbb | with_reducible exact HSS.out _ hbb.drew | with_reducible exact HSS.out _ hb9 | with_reducible exact HSS.out _ hb9.drew | with_reducible exact HSS.out _ (Below.alloc hb9 hb9.size _) | with_reducible exact HSS.out _ (Below.alloc hb9.drew hb9.size _) | with_reducible exact HSS.out _ (Below.drew (Below.alloc hbb hbb.size _)) | with_reducible exact HSS.out _ (six_set hb9 hbb.size _ _ _ _ _ _) | go_keep)
        (first
         | (go_at_call 15
            with_reducible refine (HTC.out _ ?_).mono ?_
            · first | with_reducible exact hbb.drew | with_reducible exact hbb
            rintro e w3 ⟨rfl, hb9, hb3⟩)
         | (go_at_call 15
            with_reducible refine (HTC.out _ ?_).mono ?_
            · with_reducible exact Below.drew (Below.alloc hbb hbb.size _)
            rintro e w3 ⟨rfl, hb9, hb3⟩
            have gq : Blk w3 wy.heap.size (uplC 0 0 false false false 0) 23 := Blk.below (Blk.dr (Blk.new wy (uplC 0 0 false false false 0) 23)) hb3 hlt0
            obtain ⟨j0, j1, j2, j3, j4, j5⟩ := blk_u gq
            obtain ⟨k0, k1, k2, k3, k4, k5⟩ := blk_f gq))
      · go_wp2_with fail
        go_meet
        exact ⟨w3.heap.size, rfl, rfl, rfl, Blk.new w3 (uplC yn yv yL yR yT yk) _, hb9.size, hb9.alloc hb9.size _⟩
      · go_wp2_with fail
        go_meet
        exact ⟨wy.heap.size, rfl, rfl, rfl, gq.set6 _ _ _ _ _ _, Nat.le_refl _, six_set hb9 hbb.size _ _ _ _ _ _⟩
    case rest =>
      obtain ⟨G, rfl, rfl, rfl, gG, hG, hbx⟩ := hcut
      clear HSS HTC hbb l0 l1 l2 l3 l4 l5 o0 o1 o2 hlt0
      have frC : Hid (Fr P TV w wc) := Lib.hid (frY.out.step hy.size hbx)
      have bW : Below P w wc := hy.trans (hbx.mono (Nat.le_of_lt hPy))
      have gPx := gP.below hbx hPy
      have gOx := gO.below hbx hOy
      have tX := tY.after hbx (by omega)
      have qX := qY.below (hbx.mono (by omega))
      have xX := xY.below (hbx.mono (by omega))
      have hGP : P < G := Nat.lt_of_lt_of_le hPy hG
      clear gP gO tY qY xY hbx hy
      by_cases hk : 1000000 < k'
      · have e1 := HY.out
        rw [if_pos hk] at e1
        have e2 : y2 = 16 := by
          have := (Prod.mk.inj (Prod.mk.inj e1).2).2
          exact this.symm
        have d2 : (y2 != 0) = true := by rw [e2]; rfl
        have HE2 := Lib.hid e2
        clear e1 e2
        go_wp2_with fail
        go_ret
        have hf2 : F = 16 := by rw [HF.out]; simp [hk]
        refine ⟨⟨by rw [hf2]; first | rfl | (rw [← HE2.out]; rfl), fun h0 => ?_, bW⟩, frC.out⟩
        rw [hf2] at h0
        simp at h0
      · have e1 := HY.out
        rw [if_neg hk] at e1
        have e2 : y2 = 0 := ((Prod.mk.inj (Prod.mk.inj e1).2).2).symm
        have e3 : y1 = u := ((Prod.mk.inj (Prod.mk.inj e1).2).1).symm
        have e4 := (Prod.mk.inj e1).1
        simp only [Upl.mk.injEq] at e4
        obtain ⟨rfl, rfl, rfl, rfl, rfl, rfl⟩ := e4
        subst e3
        have d2 : (y2 != 0) = false := by rw [e2]; rfl
        have HE2 := Lib.hid e2
        have hf2 : F = 0 := by rw [HF.out]; simp; omega
        have HF2 := Lib.hid hf2
        clear e1 e2 HY hf2
        obtain ⟨r0, r1, r2, r3, r4, r5⟩ := blk_u gG
        obtain ⟨⟨f0, f1, f2, f3, f4, f5⟩, -⟩ := blk_f12 gPx
        obtain ⟨⟨l0, l1, l2, l3, l4, l5⟩, -, -⟩ := blk_l gPx
        have hGP2 : P ≠ G := by omega
        have hGP3 : G ≠ P := by omega
        by_cases hu : y1 = 1
        · have d3 : (y1 == 1) = true := by simpa using hu
          have hx2 : x' = ⟨⟨n', v', L', R', T', k'⟩, f, S + 1, q, wd, false, tk ++ [bd]⟩ := by rw [HX.out]; simp [hu]
          have HX2 := Lib.hid hx2
          have bZ := six_set bW (Nat.le_refl _) (.int .i64 n') (.int .i64 v') (.bool L') (.bool R') (.bool T') (.int .i64 k')
          have cZ := six_set (Below.refl P wc) (Nat.le_refl _) (.int .i64 n') (.int .i64 v') (.bool L') (.bool R') (.bool T') (.int .i64 k')
          have gZ := gPx.board n' v' L' R' T' k'
          have tZ := own_six tX hB (.int .i64 n') (.int .i64 v') (.bool L') (.bool R') (.bool T') (.int .i64 k')
          have oZ := (((((gOx.other (g' := P) (k := 0) (u := .int .i64 n') (by omega)).other (g' := P) (k := 1) (u := .int .i64 v') (by omega)).other (g' := P) (k := 2) (u := .bool L') (by omega)).other (g' := P) (k := 3) (u := .bool R') (by omega)).other (g' := P) (k := 4) (u := .bool T') (by omega)).other (g' := P) (k := 5) (u := .int .i64 k') (by omega)
          obtain ⟨wz, hwz⟩ : ∃ wz, (((((wc.setCell ⟨P, 0, none⟩ (.int .i64 n')).setCell ⟨P, 1, none⟩ (.int .i64 v')).setCell ⟨P, 2, none⟩ (.bool L')).setCell ⟨P, 3, none⟩ (.bool R')).setCell ⟨P, 4, none⟩ (.bool T')).setCell ⟨P, 5, none⟩ (.int .i64 k') = wz := ⟨_, rfl⟩
          have fZ := frC.out.six (.int .i64 n') (.int .i64 v') (.bool L') (.bool R') (.bool T') (.int .i64 k')
          rw [hwz] at bZ cZ gZ tZ oZ fZ
          have FZ := Lib.hid fZ
          clear fZ
          have qZ := qX.below (cZ.mono hB)
          have xZ := xX.below (cZ.mono hB)
          clear hx2 hu tX gPx gOx
          go_upto_region 12 with fail
          clear hwz l0 l1 l2 l3 l4 l5 f0 f1 f2 f3 f4 f5 r0 r1 r2 r3 r4 r5
          obtain ⟨ds, d1, d2, d4⟩ := tZ
          obtain ⟨-, -, l11⟩ := blk_l gZ
          have f11 := gZ.free 11
          obtain ⟨-, -, o2⟩ := blk_o oZ
          have hPz := gZ.lt
          have hOz := oZ.lt
          have hown1 := World.ownsRow.alloc d2 (.cells #[.slice X bd.length kx] 24)
          have HO1 := Lib.hid (fun k (hk : TV.ownBlock = some k) => (World.ownsRow.lt d2 k hk).1)
          have HB1 := Lib.hid ((Below.refl (P + 1) wz).alloc (by omega) (.cells #[.slice X bd.length kx] 24))
          have GZ := Lib.hid gZ
          have HD1 := Lib.hid d1
          have HD4 := Lib.hid d4
          have HXZ := Lib.hid xZ
          have HQZ := Lib.hid qZ
          have HBZ := Lib.hid bZ
          clear gZ oZ d1 d4 xZ qZ bZ cZ
          go_region_law ((rw [if_pos (by rfl)]; refine oper_app _ (.tmp 50) (.tmp 53) 39 24 1 24 rfl elemQ (P + 1) TV tk.length (rcells Bd.cells ds) rfl hown1 (wz.heap.size + 1) _ 1 1 (rcells Bd.cells [⟨X, bd.length, kx⟩]) rfl rfl (Cells.fresh wz _ 24 _ _ rfl) (ds_one _) (by unfold maxLen; omega) (by omega) (by simp; omega) ?_; intro v3 w3 hown3 hgrow3 hat3; have hb3 : Below (P + 1) wz w3 := (by first | exact HB1.out.grown hgrow3 (by simp; omega) HO1.out | exact HB1.out.drew.grown hgrow3 (by simp; omega) HO1.out); have g3 := GZ.out.below hb3 (Nat.lt_succ_self P); obtain ⟨-, -, m11⟩ := blk_l g3; have n11 := g3.free 11; obtain ⟨A3, c3, hv3, -, -, -, -⟩ := row_form hown3; subst hv3))
          all_goals
            go_wp2_with fail
            go_ret
            rw [HX2.out]
            have hbB : Below B wz w3 := hb3.mono (by omega)
            have hbP : Below P wz w3 := hb3.mono (Nat.le_succ P)
            refine ⟨⟨by rw [HF2.out]; rfl, fun _ => ⟨A, c, _, g3.set1 11 _, HQZ.out.below (hbB.setCell hB _), hc, hA, OwnT.set (OwnT.snoc HD1.out hown3 HD4.out rfl HXZ.out hbB hbB) (Nat.lt_succ_self P) hB⟩, ?_⟩, ?_⟩
            · exact (HBZ.out.trans hbP).setCell (Nat.le_refl P) _
            · have f1 := FZ.out.step HBZ.out.size ((Below.refl wz.heap.size wz).alloc (Nat.le_refl _) (.cells #[.slice X bd.length kx] 24))
              have f2 : Fr P TV w w3 := by first | exact f1.grow (by have := HBZ.out.size; simp; omega) hgrow3 | exact (f1.step (by have := HBZ.out.size; simp; omega) (Below.refl _ _).drew).grow (by have := HBZ.out.size; show _ ≤ (wz.alloc _).heap.size; simp; omega) hgrow3
              exact f2.set
        · have d3 : (y1 == 1) = false := by simpa using hu
          have hx2 : x' = ⟨⟨n', v', L', R', T', k'⟩, f, S + 1, q, wd, false, tk⟩ := by rw [HX.out]; simp [hu]
          have HX2 := Lib.hid hx2
          clear hx2 hu
          go_wp2_with fail
          go_ret
          rw [HX2.out]
          refine ⟨⟨by rw [HF2.out]; rfl, fun _ => ⟨A, c, TV, gPx.board n' v' L' R' T' k', qX.below (six_set (Below.refl B wc) hB _ _ _ _ _ _), hc, hA, own_six tX hB _ _ _ _ _ _⟩, six_set bW (Nat.le_refl _) _ _ _ _ _ _⟩, frC.out.six _ _ _ _ _ _⟩
  · go_enter Try.func90, Try.ntmps90
    go_wp2_with fail
    refine (HN.out _ (Below.refl _ _)).mono ?_
    rintro e w1 ⟨X, kx, rfl, hrx, hb1⟩
    have hP1 := HPP.out.below hb1 hPl
    clear l05 l6 l7 l8 l9 l10 l11 f6 f7 f8 f9 f10 f11 HN
    obtain ⟨-, ⟨l6, l7, l8, l9, l10⟩, -⟩ := blk_l hP1
    obtain ⟨-, f6, f7, f8, f9, f10, -⟩ := blk_f12 hP1
    have hlt : P < w1.heap.size := hP1.lt
    go_wp2_with fail
    go_ret
    have hT1 := HT.out.after hb1 (by omega)
    have hQ1 := HQ.out.below (hb1.mono (by omega))
    have bP : Below P w w1 := hb1.mono (by omega)
    have b5 := five_at bP (Nat.le_refl P) 6 7 8 9 10 (.int .i64 f) (.int .i64 ((S : Int) + 1)) (.slice A q.length c) (.int .i64 wd) (.bool false)
    have bQ := five_at (Below.refl P w1) (Nat.le_refl P) 6 7 8 9 10 (.int .i64 f) (.int .i64 ((S : Int) + 1)) (.slice A q.length c) (.int .i64 wd) (.bool false)
    have t5 := own_five hT1 hB 6 7 8 9 10 (.int .i64 f) (.int .i64 ((S : Int) + 1)) (.slice A q.length c) (.int .i64 wd) (.bool false)
    have g5 := hP1.ground f ((S : Int) + 1) (.slice A q.length c) wd false
    have hx2 : x' = ⟨⟨n, v, L, R, T, k⟩, f, S + 1, q, wd, false, tk⟩ := by rw [HX.out]; rfl
    have hf2 : F = 0 := by rw [HF.out]; rfl
    subst hx2 hf2
    have fr5 := (Fr.of (P := P) (v := TV) hb1).five 6 7 8 9 10 (.int .i64 f) (.int .i64 ((S : Int) + 1)) (.slice A q.length c) (.int .i64 wd) (.bool false)
    refine ⟨⟨rfl, fun _ => ⟨A, c, TV, (g5.alloc _).alloc _, ((hQ1.below (bQ.mono hB)).below ((Below.refl _ _).alloc (by simp; omega) _)).below ((Below.refl _ _).alloc (by simp; omega) _), hc, hA, ?_⟩, (b5.alloc (by simp; omega) _).alloc (by simp; omega) _⟩, fr5.step (by simp; exact hb1.size) (two_new _ _ _)⟩
    exact (t5.after ((Below.refl _ _).alloc (Nat.le_refl _) _) (by simp; omega)).after ((Below.refl _ _).alloc (Nat.le_refl _) _) (by simp; omega)
end Go.Proofs.Yteikggieekhfkaa
