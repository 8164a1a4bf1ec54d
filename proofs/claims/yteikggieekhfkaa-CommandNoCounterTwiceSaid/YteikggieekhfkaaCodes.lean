/- the walks of both OrderBytes, ReadOrder and ReadAck. -/
import Derived.Test.YteikggieekhfkaaAck
import Derived.Test.YteikggieekhfkaaCloneB
import Derived.Deep.RegionHeld3
import Derived.Deep.DeepCutAuto
namespace Go.Proofs.Yteikggieekhfkaa
open Go.RowKit

attribute [local go_sem] setCell_draws alloc_draws
def outO (c m : Int) (l : List UInt8) : List UInt8 := if ordS c m l.length = 0 then UInt8.ofNat c.toNat :: UInt8.ofNat m.toNat :: l else []
theorem byte_of (c : Int) (h0 : 0 ≤ c) (h1 : c ≤ 255) : c = ((UInt8.ofNat c.toNat).toNat : Int) := by
  rw [UInt8.toNat_ofNat']; omega
theorem Blk.dr {w : World} {g : Nat} {C : Array Value} {t : TypeId} (h : Blk w g C t) : Blk w.drew g C t := h
theorem Blk.set1 {w : World} {g : Nat} {C : Array Value} {t : TypeId} (h : Blk w g C t) (k : Nat) (v : Value) : Blk (w.setCell ⟨g, k, none⟩ v) g (C.setIfInBounds k v) t := by
  have hlt := h.lt
  have h' : w.heap[g] = .cells C t (0, 0) := by unfold Blk at h; simpa [Array.getElem?_eq_getElem hlt] using h
  unfold Blk
  simp only [World.setCell]
  rw [Array.getElem?_eq_getElem (by simpa using hlt), Array.getElem_modify_self, h']
  simp
theorem BR.other {w : World} {B g k : Nat} {A : Option Addr} {l : List UInt8} {u : Value} (h : BR w B A l) (hA : ∀ ad, A = some ad → ad.block ≠ g) : BR (w.setCell ⟨g, k, none⟩ u) B A l := by
  rcases h with e | ⟨ad, e, hl, hc⟩
  · exact .inl e
  · refine .inr ⟨ad, e, hl, fun j v hv => ?_⟩
    have hb := hA ad e
    rw [← hc j v hv]
    exact World.cell?_of_block (w := w) (Below.heap_setCell w ⟨g, k, none⟩ u _ (by rw [add_block]; exact hb))
theorem br_rest {w : World} {B : Nat} {ad : Addr} {x y : UInt8} {r : List UInt8} {k : Nat} (h : BR w B (some ad) (x :: y :: r)) (hk : r.length + 2 ≤ k) : BR w B (if k = 2 then some ad else some ⟨ad.block, ad.off + 2, none⟩) r := by
  cases r with
  | nil => exact .inl rfl
  | cons z r =>
    have hk2 : k ≠ 2 := by simp at hk; omega
    rw [if_neg hk2]
    obtain ⟨ad', e, ht⟩ := h.tail 2 (by simp)
    obtain rfl : ad = ad' := by injection e
    exact ht
theorem bod_len {c m : Int} {n : Nat} (h : ordS c m n = 0) : n ≤ 200 := by
  unfold ordS at h
  split at h
  · split at h
    · split at h
      · simp at h
      · split at h
        · unfold bodS at h
          split at h
          · simp at h
          · split at h
            · simp at h
            · omega
        · split at h
          · simp at h
          · omega
    · simp at h
  · simp at h
theorem Own.form2 {w : World} {base : Nat} {v : Value} {l : List UInt8} (h : Own w base v l) : ∃ A c, v = .slice A l.length c ∧ BR w w.heap.size A l ∧ ∀ ad, A = some ad → base ≤ ad.block := by
  obtain ⟨A, c, rfl, hr⟩ := h.form
  refine ⟨A, c, rfl, hr, fun ad e => ?_⟩
  subst e
  rcases h.2 with ⟨e, _⟩ | ⟨g, cap, cur, e, hg, _⟩
  · injection e with e
    cases e
  · injection e with e
    injection e with e
    subst e
    exact hg
theorem Own.form3 {w : World} {base : Nat} {v : Value} {l : List UInt8} (h : Own w base v l) : ∃ A c, v = .slice A l.length c ∧ BR w w.heap.size A l ∧ l.length ≤ c := by
  obtain ⟨A, c, rfl, hr⟩ := h.form
  refine ⟨A, c, rfl, hr, ?_⟩
  rcases h.2 with ⟨e, hn⟩ | ⟨g, cap, cur, e, hg, hh, hnc, _⟩
  · omega
  · injection e with e1 e2 e3
    omega
set_option maxRecDepth 100000 in
set_option maxHeartbeats 1000000 in
theorem p_orderBytes_any (c m : Int) (A : Option Addr) (l : List UInt8) (k B : Nat) (w : World) (hB : B ≤ w.heap.size) (h : BR w B A l) :
    Calls Try.prog 41 #[ordV c m A l.length k] w (BytesPost (outO c m l) (ordS c m l.length) w) := by
  have HC := Lib.hid (p_checkOrder_any c m A l.length k)
  unfold ordV at *
  by_cases h1 : ordS c m l.length = 0
  · obtain ⟨c0, c1, m0, m1⟩ := ord_ok h1
    have hl := bod_len h1
    have HO : Hid (outO c m l = [UInt8.ofNat c.toNat, UInt8.ofNat m.toNat] ++ l) := Lib.hid (by unfold outO; rw [if_pos h1]; rfl)
    have HX := Lib.hid (byte_of c (by omega) (by omega))
    have HY := Lib.hid (byte_of m (by omega) (by omega))
    rw [h1] at HC ⊢
    generalize outO c m l = X at *
    have H := Lib.hid h
    clear h1 h
    go_enter Try.func41, Try.ntmps41
    go_wp2_with fail
    refine (HC.out _).mono ?_
    rintro e w1 ⟨rfl, hb1⟩
    have g1 : Blk w1 w.heap.size (ordC c m A l.length k) 26 := ((Blk.new w _ _).below hb1 (by simp))
    have B1 := ((Below.refl w.heap.size w).alloc (Nat.le_refl _) (.cells (ordC c m A l.length k) 26)).trans (hb1.mono (by simp))
    clear hb1
    have s1 := B1.size
    have hlt := g1.lt
    have r1 : BR (w1.alloc (.cells #[.int .u8 c, .int .u8 m] 5)) (w1.heap.size + 1) A l := (((H.out.lift hB).below B1).below ((Below.refl _ _).alloc s1 _)).lift (by omega)
    obtain ⟨p0, p1, p2⟩ := blk_o g1
    go_wp2_with (first | (at_builtin; refine wpList_app _ rfl (.tmp 16) (.tmp 18) 24 5 1 1 rfl elem8 w1.heap.size _ 2 [.int .u8 c, .int .u8 m] rfl (World.ownsRow_lit (e := 5) (size := 1) w1 #[.int .u8 c, .int .u8 m] 2 (Nat.le_refl _) (by simp [maxLen]) rfl) (w1.heap.size + 1) A l.length k (l.map bv) rfl (by simp) r1 (bv_one _) (by unfold maxLen; omega) (by omega) (by simp) ?_; intro v2 w2 hown2 hgrow2 hat2) | fail)
    go_ret2
    have ho : Own w2 w1.heap.size v2 ([UInt8.ofNat c.toNat, UInt8.ofNat m.toNat] ++ l) := by
      have e : [Value.int .u8 c, .int .u8 m] = [UInt8.ofNat c.toNat, UInt8.ofNat m.toNat].map bv := by
        simp only [List.map_cons, List.map_nil, bv, ← HX.out, ← HY.out]
      rw [e] at hown2
      exact Own.of (a := [UInt8.ofNat c.toNat, UInt8.ofNat m.toNat]) hown2 rfl
    obtain ⟨A2, c2, rfl, hr, hcl⟩ := ho.form3
    refine ⟨A2, c2, by rw [HO.out]; rfl, by rw [HO.out]; exact hr, ?_, by rw [HO.out]; exact hcl⟩
    exact (B1.alloc s1 _).grown hgrow2 (by simp; omega) (fun k hk => Nat.le_trans s1 (Nat.le_of_eq (by injection hk)))
  · have HO : Hid (outO c m l = []) := Lib.hid (by unfold outO; rw [if_neg h1])
    have d1 : (ordS c m l.length != 0) = true := by simpa using h1
    generalize ordS c m l.length = F at *
    generalize outO c m l = X at *
    clear h1
    go_enter Try.func41, Try.ntmps41
    go_wp2_with fail
    refine (HC.out _).mono ?_
    rintro e w1 ⟨rfl, hb1⟩
    have B1 := ((Below.refl w.heap.size w).alloc (Nat.le_refl _) (.cells (ordC c m A l.length k) 26)).trans (hb1.mono (by simp))
    clear hb1
    go_wp2_with fail
    go_ret2
    rw [HO.out]
    exact ⟨_, _, rfl, .inl rfl, B1, Nat.le_refl _⟩
set_option maxRecDepth 100000 in
set_option maxHeartbeats 1000000 in
theorem r_orderBytes_any (c m : Int) (A : Option Addr) (l : List UInt8) (k B : Nat) (w : World) (hB : B ≤ w.heap.size) (h : BR w B A l) :
    Calls Try.prog 42 #[ordV c m A l.length k] w (BytesPost (outO c m l) (ordS c m l.length) w) := by
  have HC := Lib.hid (r_checkOrder_any c m A l.length k)
  unfold ordV at *
  by_cases h1 : ordS c m l.length = 0
  · obtain ⟨c0, c1, m0, m1⟩ := ord_ok h1
    have hl := bod_len h1
    have HO : Hid (outO c m l = [UInt8.ofNat c.toNat, UInt8.ofNat m.toNat] ++ l) := Lib.hid (by unfold outO; rw [if_pos h1]; rfl)
    have HX := Lib.hid (byte_of c (by omega) (by omega))
    have HY := Lib.hid (byte_of m (by omega) (by omega))
    rw [h1] at HC ⊢
    generalize outO c m l = X at *
    have H := Lib.hid h
    clear h1 h
    go_enter Try.func42, Try.ntmps42
    go_wp2_with fail
    refine (HC.out _).mono ?_
    rintro e w1 ⟨rfl, hb1⟩
    have g1 : Blk w1 w.heap.size (ordC c m A l.length k) 26 := ((Blk.new w _ _).below hb1 (by simp))
    have B1 := ((Below.refl w.heap.size w).alloc (Nat.le_refl _) (.cells (ordC c m A l.length k) 26)).trans (hb1.mono (by simp))
    clear hb1
    have s1 := B1.size
    have hlt := g1.lt
    have r1 : BR (w1.alloc (.cells #[.int .u8 c, .int .u8 m] 5)) (w1.heap.size + 1) A l := (((H.out.lift hB).below B1).below ((Below.refl _ _).alloc s1 _)).lift (by omega)
    obtain ⟨p0, p1, p2⟩ := blk_o g1
    go_wp2_with (first | (at_builtin; refine wpList_app _ rfl (.tmp 16) (.tmp 18) 24 5 1 1 rfl elem8 w1.heap.size _ 2 [.int .u8 c, .int .u8 m] rfl (World.ownsRow_lit (e := 5) (size := 1) w1 #[.int .u8 c, .int .u8 m] 2 (Nat.le_refl _) (by simp [maxLen]) rfl) (w1.heap.size + 1) A l.length k (l.map bv) rfl (by simp) r1 (bv_one _) (by unfold maxLen; omega) (by omega) (by simp) ?_; intro v2 w2 hown2 hgrow2 hat2) | fail)
    go_ret2
    have ho : Own w2 w1.heap.size v2 ([UInt8.ofNat c.toNat, UInt8.ofNat m.toNat] ++ l) := by
      have e : [Value.int .u8 c, .int .u8 m] = [UInt8.ofNat c.toNat, UInt8.ofNat m.toNat].map bv := by
        simp only [List.map_cons, List.map_nil, bv, ← HX.out, ← HY.out]
      rw [e] at hown2
      exact Own.of (a := [UInt8.ofNat c.toNat, UInt8.ofNat m.toNat]) hown2 rfl
    obtain ⟨A2, c2, rfl, hr, hcl⟩ := ho.form3
    refine ⟨A2, c2, by rw [HO.out]; rfl, by rw [HO.out]; exact hr, ?_, by rw [HO.out]; exact hcl⟩
    exact (B1.alloc s1 _).grown hgrow2 (by simp; omega) (fun k hk => Nat.le_trans s1 (Nat.le_of_eq (by injection hk)))
  · have HO : Hid (outO c m l = []) := Lib.hid (by unfold outO; rw [if_neg h1])
    have d1 : (ordS c m l.length != 0) = true := by simpa using h1
    generalize ordS c m l.length = F at *
    generalize outO c m l = X at *
    clear h1
    go_enter Try.func42, Try.ntmps42
    go_wp2_with fail
    refine (HC.out _).mono ?_
    rintro e w1 ⟨rfl, hb1⟩
    have B1 := ((Below.refl w.heap.size w).alloc (Nat.le_refl _) (.cells (ordC c m A l.length k) 26)).trans (hb1.mono (by simp))
    clear hb1
    go_wp2_with fail
    go_ret2
    rw [HO.out]
    exact ⟨_, _, rfl, .inl rfl, B1, Nat.le_refl _⟩
/-- what reading a command gives -/
def rdO : List UInt8 → Int × Int × List UInt8 × Int
  | x :: y :: r => if ordS (x.toNat : Int) (y.toNat : Int) r.length = 0 then ((x.toNat : Int), (y.toNat : Int), r, 0) else (0, 0, [], ordS (x.toNat : Int) (y.toNat : Int) r.length)
  | _ => (0, 0, [], 3)
def OrdPost (s : Int × Int × List UInt8 × Int) (w : World) (e : Ending) (w' : World) : Prop :=
  ∃ A k, e = .returned (.tuple #[ordV s.1 s.2.1 A s.2.2.1.length k, .int .i64 s.2.2.2]) ∧ BR w' w'.heap.size A s.2.2.1 ∧ Below w.heap.size w w'
set_option maxRecDepth 100000 in
set_option maxHeartbeats 1000000 in
theorem p_readOrder_good (ad : Addr) (x y : UInt8) (r : List UInt8) (k N B : Nat) (w : World) (hB : B ≤ w.heap.size) (hN : N = r.length + 2) (hk : N ≤ k) (hs : N ≤ 140737488355328) (h : BR w B (some ad) (x :: y :: r)) :
    Calls Try.prog 43 #[.slice (some ad) N k] w (OrdPost (rdO (x :: y :: r)) w) := by
  have HCL := Lib.hid (fun (a : Option Addr) (n c : Nat) (hn : n = r.length) (hr : ∀ w1, Below w.heap.size w w1 → BR w1 w1.heap.size a r) (w1 : World) (hb : Below w.heap.size w w1) => (clone_any a n c r w1 hn (by omega) (hr w1 hb)).mono fun e w' ⟨v, he, ho, h2⟩ => (by obtain ⟨A, c, rfl, hr, hf⟩ := ho.form2; exact ⟨A, c, he, hr, hb.trans (h2.mono hb.size), h2, hf⟩ : ∃ A c, e = Ending.returned (.slice A r.length c) ∧ BR w' w'.heap.size A r ∧ Below w.heap.size w w' ∧ Below w1.heap.size w1 w' ∧ ∀ ad, A = some ad → w1.heap.size ≤ ad.block))
  have HCH := Lib.hid (fun (A : Option Addr) (n k : Nat) => p_checkOrder_any (x.toNat : Int) (y.toNat : Int) A n k)
  have hx := x.toNat_lt
  have hy := y.toNat_lt
  obtain ⟨ad0, e0, hbk, c0⟩ := h.get 0 (by simp)
  obtain ⟨ad1, e1, -, c1⟩ := h.get 1 (by simp)
  obtain rfl : ad = ad0 := by injection e0
  obtain rfl : ad = ad1 := by injection e1
  rw [addr_zero] at c0
  simp only [List.getElem_cons_zero, List.getElem_cons_succ] at c0 c1
  rw [show ad.add 1 = ⟨ad.block, ad.off + 1, none⟩ by simp [Addr.add]] at c1
  generalize hX : x.toNat = X at *
  generalize hY : y.toNat = Y at *
  have hN2 : ¬ ((N : Int) < 2) := by omega
  have hN0 : (0 : Int) < (N : Int) := by omega
  have hN1 : (1 : Int) < (N : Int) := by omega
  have hn0 : 0 < N := by omega
  have hn1 : 1 < N := by omega
  have hn2 : 2 ≤ N := by omega
  have hi2 : (2 : Int) ≤ (N : Int) := by omega
  have hik : (N : Int) ≤ (k : Int) := by omega
  have hd2 : decide (2 ≤ N) = true := decide_eq_true hn2
  have hdk : decide (N ≤ k) = true := decide_eq_true hk
  have HN2 : Hid (N - 2 = r.length) := Lib.hid (by omega)
  have HTL := Lib.hid (fun (w1 : World) (hb : Below w.heap.size w w1) => br_rest (k := k) (((h.lift hB).below hb).lift hb.size) (by omega))
  clear hN h
  obtain ⟨w0, hw0⟩ : ∃ w0, w.alloc (.cells #[.int .i64 0, .int .i64 0, .slice none 0 0] 26) = w0 := ⟨_, rfl⟩
  have hb0 : Below w.heap.size w w0 := by rw [← hw0]; exact (Below.refl _ _).alloc (Nat.le_refl _) _
  have g0 : Blk w0 w.heap.size (ordC 0 0 none 0 0) 26 := by rw [← hw0]; exact Blk.new w _ _
  have HSS := Lib.hid (fun (w1 : World) (hb : Below w.heap.size w w1) => (⟨(hb.cell (Nat.lt_of_lt_of_le hbk hB)).trans c0, (Below.at_ hb _ (Nat.lt_of_lt_of_le hbk hB) _).trans c1⟩ : w1.cell? ad = some (.int .u8 (X : Int)) ∧ w1.cell? ⟨ad.block, ad.off + 1, none⟩ = some (.int .u8 (Y : Int))))
  have hlt0 : w0.heap.size < (w0.alloc (.cells (ordC 0 0 none 0 0) 26)).drew.heap.size := by show w0.heap.size < (w0.alloc _).heap.size; rw [World.size_alloc]; omega
  have hne : ∀ {A : Option Addr}, (∀ ad, A = some ad → (w0.alloc (.cells (ordC 0 0 none 0 0) 26)).drew.heap.size ≤ ad.block) → ∀ ad, A = some ad → ad.block ≠ w0.heap.size := fun h ad e => by have := h ad e; omega
  have hne2 : ∀ {A : Option Addr}, (∀ ad, A = some ad → w0.drew.heap.size ≤ ad.block) → ∀ ad, A = some ad → ad.block ≠ w.heap.size := fun h ad e => by have h1 := h ad e; have h2 := g0.lt; have h3 : w0.heap.size ≤ ad.block := h1; omega
  have hne3 : ∀ {A : Option Addr}, (∀ ad, A = some ad → (w0.alloc (.cells (ordC 0 0 none 0 0) 26)).drew.heap.size ≤ ad.block) → ∀ ad, A = some ad → ad.block ≠ w.heap.size := fun h ad e => by have h1 := h ad e; have h2 := g0.lt; omega
  have hwX : IntKind.i64.wrap (X : Int) = (X : Int) := IntWalk.i64_in _ (by omega)
  have hwY : IntKind.i64.wrap (Y : Int) = (Y : Int) := IntWalk.i64_in _ (by omega)
  go_enter Try.func43, Try.ntmps43
  go_upto_region 3 with fail
  clear hw0
  go_cut [4] (fun s4 wx => ∃ (G : Nat) (A : Option Addr) (c : Nat), s4 = .pointer (some ⟨G, 0, none⟩) ∧ Blk wx G (ordC X Y A r.length c) 26 ∧ BR wx wx.heap.size A r ∧ w.heap.size < G ∧ Blk wx w.heap.size (ordC 0 0 none 0 0) 26 ∧ Below w.heap.size w wx ∧ ∀ ad, A = some ad → ad.block ≠ w.heap.size)
  case first =>
    rcases Nat.lt_or_eq_of_le (Nat.le_trans hn2 hk) with hk2 | hk2
    · have hk3 : k ≠ 2 := by omega
      have HT := Lib.hid (fun (w1 : World) (hb : Below w.heap.size w w1) => by have := HTL.out w1 hb; rw [if_neg hk3] at this; exact this)
      clear hk2 HTL
      go_region_held3 (fun w' => w'.cell? ad = some (.int .u8 (X : Int)) ∧ w'.cell? ⟨ad.block, ad.off + 1, none⟩ = some (.int .u8 (Y : Int)))
        (first | with_reducible exact HSS.out _ hb0 | with_reducible exact HSS.out _ hb0.drew | with_reducible exact HSS.out _ hb9 | with_reducible exact HSS.out _ hb9.drew | with_reducible exact HSS.out _ (Below.alloc hb9 hb9.size _) | with_reducible exact HSS.out _ (Below.alloc hb9.drew hb9.size _) | with_reducible exact HSS.out _ (Below.drew (Below.alloc hb0 hb0.size _)) | with_reducible exact HSS.out _ (((Below.setCell hb9 hb0.size _).setCell hb0.size _).setCell hb0.size _) | go_keep)
        (first
         | (go_at_call 80
            with_reducible refine (HCL.out _ _ _ HN2.out HT.out _ ?_).mono ?_
            · first | with_reducible exact hb0.drew | with_reducible exact hb0
            rintro e w3 ⟨A3, c3, rfl, hr3, hb9, hb3, hf3⟩
            have gp : Blk w3 w.heap.size (ordC 0 0 none 0 0) 26 := Blk.below (Blk.dr g0) hb3 g0.lt
            have hlt3 : w.heap.size < w3.heap.size := gp.lt)
         | (go_at_call 80
            with_reducible refine (HCL.out _ _ _ HN2.out HT.out _ ?_).mono ?_
            · with_reducible exact Below.drew (Below.alloc hb0 hb0.size _)
            rintro e w3 ⟨A3, c3, rfl, hr3, hb9, hb3, hf3⟩
            have gp : Blk w3 w.heap.size (ordC 0 0 none 0 0) 26 := Blk.below (Blk.dr (Blk.alloc g0 _)) hb3 (Nat.lt_trans g0.lt hlt0)
            have gq : Blk w3 w0.heap.size (ordC 0 0 none 0 0) 26 := Blk.below (Blk.dr (Blk.new w0 (ordC 0 0 none 0 0) 26)) hb3 hlt0
            obtain ⟨p0, p1, p2⟩ := blk_o gq
            obtain ⟨f0, f1, f2, -, -, -⟩ := blk_f gq))
      · go_wp2_with fail
        go_meet
        exact ⟨w3.heap.size, A3, c3, rfl, Blk.new w3 (ordC X Y A3 r.length c3) _, (hr3.below ((Below.refl _ _).alloc (Nat.le_refl _) _)).lift (by simp), hlt3, gp.alloc _, hb9.alloc hb9.size _, hne2 hf3⟩
      · go_wp2_with fail
        go_meet
        exact ⟨w0.heap.size, A3, c3, rfl, ((gq.set1 0 (.int .i64 X)).set1 1 (.int .i64 Y)).set1 2 (.slice A3 r.length c3), (((hr3.other (hne hf3)).other (hne hf3)).other (hne hf3)).lift (by simp), g0.lt, ((gp.other (by have := g0.lt; omega)).other (by have := g0.lt; omega)).other (by have := g0.lt; omega), ((hb9.setCell hb0.size _).setCell hb0.size _).setCell hb0.size _, hne3 hf3⟩
    · obtain rfl : N = 2 := by omega
      obtain rfl : k = 2 := by omega
      obtain rfl : r = [] := List.eq_nil_of_length_eq_zero (by have := HN2.out; omega)
      have HT := Lib.hid (fun (w1 : World) (hb : Below w.heap.size w w1) => by have := HTL.out w1 hb; rw [if_pos rfl] at this; exact this)
      have HN2 : Hid (0 = ([] : List UInt8).length) := Lib.hid rfl
      clear HTL hk2 hk hn2 hi2 hik hd2 hdk
      go_region_held3 (fun w' => w'.cell? ad = some (.int .u8 (X : Int)) ∧ w'.cell? ⟨ad.block, ad.off + 1, none⟩ = some (.int .u8 (Y : Int)))
        (first | with_reducible exact HSS.out _ hb0 | with_reducible exact HSS.out _ hb0.drew | with_reducible exact HSS.out _ hb9 | with_reducible exact HSS.out _ hb9.drew | with_reducible exact HSS.out _ (Below.alloc hb9 hb9.size _) | with_reducible exact HSS.out _ (Below.alloc hb9.drew hb9.size _) | with_reducible exact HSS.out _ (Below.drew (Below.alloc hb0 hb0.size _)) | with_reducible exact HSS.out _ (((Below.setCell hb9 hb0.size _).setCell hb0.size _).setCell hb0.size _) | go_keep)
        (first
         | (go_at_call 80
            with_reducible refine (HCL.out _ _ _ HN2.out HT.out _ ?_).mono ?_
            · first | with_reducible exact hb0.drew | with_reducible exact hb0
            rintro e w3 ⟨A3, c3, rfl, hr3, hb9, hb3, hf3⟩
            have gp : Blk w3 w.heap.size (ordC 0 0 none 0 0) 26 := Blk.below (Blk.dr g0) hb3 g0.lt
            have hlt3 : w.heap.size < w3.heap.size := gp.lt)
         | (go_at_call 80
            with_reducible refine (HCL.out _ _ _ HN2.out HT.out _ ?_).mono ?_
            · with_reducible exact Below.drew (Below.alloc hb0 hb0.size _)
            rintro e w3 ⟨A3, c3, rfl, hr3, hb9, hb3, hf3⟩
            have gp : Blk w3 w.heap.size (ordC 0 0 none 0 0) 26 := Blk.below (Blk.dr (Blk.alloc g0 _)) hb3 (Nat.lt_trans g0.lt hlt0)
            have gq : Blk w3 w0.heap.size (ordC 0 0 none 0 0) 26 := Blk.below (Blk.dr (Blk.new w0 (ordC 0 0 none 0 0) 26)) hb3 hlt0
            obtain ⟨p0, p1, p2⟩ := blk_o gq
            obtain ⟨f0, f1, f2, -, -, -⟩ := blk_f gq))
      · go_wp2_with fail
        go_meet
        exact ⟨w3.heap.size, A3, c3, rfl, Blk.new w3 (ordC X Y A3 0 c3) _, (hr3.below ((Below.refl _ _).alloc (Nat.le_refl _) _)).lift (by simp), hlt3, gp.alloc _, hb9.alloc hb9.size _, hne2 hf3⟩
      · go_wp2_with fail
        go_meet
        exact ⟨w0.heap.size, A3, c3, rfl, ((gq.set1 0 (.int .i64 X)).set1 1 (.int .i64 Y)).set1 2 (.slice A3 0 c3), (((hr3.other (hne hf3)).other (hne hf3)).other (hne hf3)).lift (by simp), g0.lt, ((gp.other (by have := g0.lt; omega)).other (by have := g0.lt; omega)).other (by have := g0.lt; omega), ((hb9.setCell hb0.size _).setCell hb0.size _).setCell hb0.size _, hne3 hf3⟩
  case rest =>
    obtain ⟨G, A3, c3, rfl, gG, hr3, hG, g9, hb9, hA3⟩ := hcut
    have hE : rdO (x :: y :: r) = if ordS (X : Int) (Y : Int) r.length = 0 then ((X : Int), (Y : Int), r, 0) else (0, 0, [], ordS (X : Int) (Y : Int) r.length) := by
      rw [← hX, ← hY]
      rfl
    have HE := Lib.hid hE
    have HC := Lib.hid (fun w => HCH.out A3 r.length c3 w)
    generalize rdO (x :: y :: r) = Z at *
    unfold ordV at HC
    clear hE HSS HCL HTL HCH hX hY hN2 hN0 hN1 hn0 hn1 hn2 hi2 hik hd2 hdk hne hne2 hne3 hlt0 hb0 g0 c0 c1 e0 e1
    obtain ⟨p0, p1, p2⟩ := blk_o gG
    by_cases hF : ordS (X : Int) (Y : Int) r.length = 0
    · have hF2 : (ordS (X : Int) (Y : Int) r.length != 0) = false := by simpa using hF
      have HZ : Hid (Z = ((X : Int), (Y : Int), r, 0)) := Lib.hid (by rw [HE.out, if_pos hF])
      clear HE hF
      generalize ordS (X : Int) (Y : Int) r.length = F at *
      go_wp2_with fail
      refine (HC.out _).mono ?_
      rintro e w4 ⟨rfl, hb4⟩
      clear p0 p1 p2
      have hs9 := hb9.size
      have gG4 := gG.below hb4 gG.lt
      have g4 := g9.below hb4 g9.lt
      obtain ⟨p0, p1, p2⟩ := blk_o gG4
      obtain ⟨q0, q1, q2⟩ := blk_o g4
      obtain ⟨f0, f1, f2, -, -, -⟩ := blk_f g4
      go_wp2_with fail
      refine bodyPost_ret (v := .tuple #[.agg #[.int .i64 X, .int .i64 Y, .slice A3 r.length c3], .int .i64 0]) (by simp [results, Try.results43, go_sem, q0, q1, q2]) rfl ?_
      rw [HZ.out]
      refine ⟨A3, c3, rfl, ?_, (((hb9.trans (hb4.mono hs9)).setCell (Nat.le_refl _) _).setCell (Nat.le_refl _) _).setCell (Nat.le_refl _) _⟩
      exact (((((hr3.below hb4).lift hb4.size).other hA3).other hA3).other hA3).lift (by simp)
    · have hF2 : (ordS (X : Int) (Y : Int) r.length != 0) = true := by simpa using hF
      have HZ : Hid (Z = (0, 0, [], ordS (X : Int) (Y : Int) r.length)) := Lib.hid (by rw [HE.out, if_neg hF])
      clear HE hF
      generalize ordS (X : Int) (Y : Int) r.length = F at *
      go_wp2_with fail
      refine (HC.out _).mono ?_
      rintro e w4 ⟨rfl, hb4⟩
      clear p0 p1 p2
      have hs9 := hb9.size
      have g4 := g9.below hb4 g9.lt
      obtain ⟨q0, q1, q2⟩ := blk_o g4
      obtain ⟨f0, f1, f2, -, -, -⟩ := blk_f g4
      go_wp2_with fail
      refine bodyPost_ret (v := .tuple #[.agg #[.int .i64 0, .int .i64 0, .slice none 0 0], .int .i64 F]) (by simp [results, Try.results43, go_sem, q0, q1, q2]) rfl ?_
      rw [HZ.out]
      exact ⟨none, 0, rfl, .inl rfl, (((hb9.trans (hb4.mono hs9)).setCell (Nat.le_refl _) _).setCell (Nat.le_refl _) _).setCell (Nat.le_refl _) _⟩
set_option maxRecDepth 100000 in
set_option maxHeartbeats 400000 in
theorem p_readOrder_any (A : Option Addr) (l : List UInt8) (k B : Nat) (w : World) (hB : B ≤ w.heap.size) (hk : l.length ≤ k) (hs : l.length ≤ 140737488355328) (h : BR w B A l) :
    Calls Try.prog 43 #[.slice A l.length k] w (OrdPost (rdO l) w) := by
  by_cases hn : l.length < 2
  · have hi : (l.length : Int) < 2 := by omega
    have HZ : Hid (rdO l = (0, 0, [], 3)) := Lib.hid (by
      match l, hn with
      | [], _ => rfl
      | [_], _ => rfl
      | _ :: _ :: _, h => simp at h; omega)
    generalize rdO l = Z at *
    clear hn
    go_enter Try.func43, Try.ntmps43
    go_wp2_with fail
    refine bodyPost_ret (v := .tuple #[.agg #[.int .i64 0, .int .i64 0, .slice none 0 0], .int .i64 3]) (by simp [results, Try.results43, go_sem]) rfl ?_
    rw [HZ.out]
    exact ⟨none, 0, rfl, .inl rfl, (Below.refl _ _).alloc (Nat.le_refl _) _⟩
  · obtain ⟨x, y, r, rfl⟩ : ∃ x y r, l = x :: y :: r := by
      match l, hn with
      | x :: y :: r, _ => exact ⟨x, y, r, rfl⟩
      | [], h => simp at h
      | [_], h => simp at h
    obtain ⟨ad, rfl, -, -⟩ := h.get 0 (by simp)
    exact p_readOrder_good ad x y r k _ B w hB (by simp) hk hs h
set_option maxRecDepth 100000 in
set_option maxHeartbeats 1000000 in
theorem r_readOrder_good (ad : Addr) (x y : UInt8) (r : List UInt8) (k N B : Nat) (w : World) (hB : B ≤ w.heap.size) (hN : N = r.length + 2) (hk : N ≤ k) (hs : N ≤ 140737488355328) (h : BR w B (some ad) (x :: y :: r)) :
    Calls Try.prog 48 #[.slice (some ad) N k] w (OrdPost (rdO (x :: y :: r)) w) := by
  have HCL := Lib.hid (fun (a : Option Addr) (n c : Nat) (hn : n = r.length) (hr : ∀ w1, Below w.heap.size w w1 → BR w1 w1.heap.size a r) (w1 : World) (hb : Below w.heap.size w w1) => (clone_any a n c r w1 hn (by omega) (hr w1 hb)).mono fun e w' ⟨v, he, ho, h2⟩ => (by obtain ⟨A, c, rfl, hr, hf⟩ := ho.form2; exact ⟨A, c, he, hr, hb.trans (h2.mono hb.size), h2, hf⟩ : ∃ A c, e = Ending.returned (.slice A r.length c) ∧ BR w' w'.heap.size A r ∧ Below w.heap.size w w' ∧ Below w1.heap.size w1 w' ∧ ∀ ad, A = some ad → w1.heap.size ≤ ad.block))
  have HCH := Lib.hid (fun (A : Option Addr) (n k : Nat) => r_checkOrder_any (x.toNat : Int) (y.toNat : Int) A n k)
  have hx := x.toNat_lt
  have hy := y.toNat_lt
  obtain ⟨ad0, e0, hbk, c0⟩ := h.get 0 (by simp)
  obtain ⟨ad1, e1, -, c1⟩ := h.get 1 (by simp)
  obtain rfl : ad = ad0 := by injection e0
  obtain rfl : ad = ad1 := by injection e1
  rw [addr_zero] at c0
  simp only [List.getElem_cons_zero, List.getElem_cons_succ] at c0 c1
  rw [show ad.add 1 = ⟨ad.block, ad.off + 1, none⟩ by simp [Addr.add]] at c1
  generalize hX : x.toNat = X at *
  generalize hY : y.toNat = Y at *
  have hN2 : ¬ ((N : Int) < 2) := by omega
  have hN0 : (0 : Int) < (N : Int) := by omega
  have hN1 : (1 : Int) < (N : Int) := by omega
  have hn0 : 0 < N := by omega
  have hn1 : 1 < N := by omega
  have hn2 : 2 ≤ N := by omega
  have hi2 : (2 : Int) ≤ (N : Int) := by omega
  have hik : (N : Int) ≤ (k : Int) := by omega
  have hd2 : decide (2 ≤ N) = true := decide_eq_true hn2
  have hdk : decide (N ≤ k) = true := decide_eq_true hk
  have HN2 : Hid (N - 2 = r.length) := Lib.hid (by omega)
  have HTL := Lib.hid (fun (w1 : World) (hb : Below w.heap.size w w1) => br_rest (k := k) (((h.lift hB).below hb).lift hb.size) (by omega))
  clear hN h
  obtain ⟨w0, hw0⟩ : ∃ w0, w.alloc (.cells #[.int .i64 0, .int .i64 0, .slice none 0 0] 26) = w0 := ⟨_, rfl⟩
  have hb0 : Below w.heap.size w w0 := by rw [← hw0]; exact (Below.refl _ _).alloc (Nat.le_refl _) _
  have g0 : Blk w0 w.heap.size (ordC 0 0 none 0 0) 26 := by rw [← hw0]; exact Blk.new w _ _
  have HSS := Lib.hid (fun (w1 : World) (hb : Below w.heap.size w w1) => (⟨(hb.cell (Nat.lt_of_lt_of_le hbk hB)).trans c0, (Below.at_ hb _ (Nat.lt_of_lt_of_le hbk hB) _).trans c1⟩ : w1.cell? ad = some (.int .u8 (X : Int)) ∧ w1.cell? ⟨ad.block, ad.off + 1, none⟩ = some (.int .u8 (Y : Int))))
  have hlt0 : w0.heap.size < (w0.alloc (.cells (ordC 0 0 none 0 0) 26)).drew.heap.size := by show w0.heap.size < (w0.alloc _).heap.size; rw [World.size_alloc]; omega
  have hne : ∀ {A : Option Addr}, (∀ ad, A = some ad → (w0.alloc (.cells (ordC 0 0 none 0 0) 26)).drew.heap.size ≤ ad.block) → ∀ ad, A = some ad → ad.block ≠ w0.heap.size := fun h ad e => by have := h ad e; omega
  have hne2 : ∀ {A : Option Addr}, (∀ ad, A = some ad → w0.drew.heap.size ≤ ad.block) → ∀ ad, A = some ad → ad.block ≠ w.heap.size := fun h ad e => by have h1 := h ad e; have h2 := g0.lt; have h3 : w0.heap.size ≤ ad.block := h1; omega
  have hne3 : ∀ {A : Option Addr}, (∀ ad, A = some ad → (w0.alloc (.cells (ordC 0 0 none 0 0) 26)).drew.heap.size ≤ ad.block) → ∀ ad, A = some ad → ad.block ≠ w.heap.size := fun h ad e => by have h1 := h ad e; have h2 := g0.lt; omega
  have hwX : IntKind.i64.wrap (X : Int) = (X : Int) := IntWalk.i64_in _ (by omega)
  have hwY : IntKind.i64.wrap (Y : Int) = (Y : Int) := IntWalk.i64_in _ (by omega)
  go_enter Try.func48, Try.ntmps48
  go_upto_region 3 with fail
  clear hw0
  go_cut [4] (fun s4 wx => ∃ (G : Nat) (A : Option Addr) (c : Nat), s4 = .pointer (some ⟨G, 0, none⟩) ∧ Blk wx G (ordC X Y A r.length c) 26 ∧ BR wx wx.heap.size A r ∧ w.heap.size < G ∧ Blk wx w.heap.size (ordC 0 0 none 0 0) 26 ∧ Below w.heap.size w wx ∧ ∀ ad, A = some ad → ad.block ≠ w.heap.size)
  case first =>
    rcases Nat.lt_or_eq_of_le (Nat.le_trans hn2 hk) with hk2 | hk2
    · have hk3 : k ≠ 2 := by omega
      have HT := Lib.hid (fun (w1 : World) (hb : Below w.heap.size w w1) => by have := HTL.out w1 hb; rw [if_neg hk3] at this; exact this)
      clear hk2 HTL
      go_region_held3 (fun w' => w'.cell? ad = some (.int .u8 (X : Int)) ∧ w'.cell? ⟨ad.block, ad.off + 1, none⟩ = some (.int .u8 (Y : Int)))
        (first | with_reducible exact HSS.out _ hb0 | with_reducible exact HSS.out _ hb0.drew | with_reducible exact HSS.out _ hb9 | with_reducible exact HSS.out _ hb9.drew | with_reducible exact HSS.out _ (Below.alloc hb9 hb9.size _) | with_reducible exact HSS.out _ (Below.alloc hb9.drew hb9.size _) | with_reducible exact HSS.out _ (Below.drew (Below.alloc hb0 hb0.size _)) | with_reducible exact HSS.out _ (((Below.setCell hb9 hb0.size _).setCell hb0.size _).setCell hb0.size _) | go_keep)
        (first
         | (go_at_call 80
            with_reducible refine (HCL.out _ _ _ HN2.out HT.out _ ?_).mono ?_
            · first | with_reducible exact hb0.drew | with_reducible exact hb0
            rintro e w3 ⟨A3, c3, rfl, hr3, hb9, hb3, hf3⟩
            have gp : Blk w3 w.heap.size (ordC 0 0 none 0 0) 26 := Blk.below (Blk.dr g0) hb3 g0.lt
            have hlt3 : w.heap.size < w3.heap.size := gp.lt)
         | (go_at_call 80
            with_reducible refine (HCL.out _ _ _ HN2.out HT.out _ ?_).mono ?_
            · with_reducible exact Below.drew (Below.alloc hb0 hb0.size _)
            rintro e w3 ⟨A3, c3, rfl, hr3, hb9, hb3, hf3⟩
            have gp : Blk w3 w.heap.size (ordC 0 0 none 0 0) 26 := Blk.below (Blk.dr (Blk.alloc g0 _)) hb3 (Nat.lt_trans g0.lt hlt0)
            have gq : Blk w3 w0.heap.size (ordC 0 0 none 0 0) 26 := Blk.below (Blk.dr (Blk.new w0 (ordC 0 0 none 0 0) 26)) hb3 hlt0
            obtain ⟨p0, p1, p2⟩ := blk_o gq
            obtain ⟨f0, f1, f2, -, -, -⟩ := blk_f gq))
      · go_wp2_with fail
        go_meet
        exact ⟨w3.heap.size, A3, c3, rfl, Blk.new w3 (ordC X Y A3 r.length c3) _, (hr3.below ((Below.refl _ _).alloc (Nat.le_refl _) _)).lift (by simp), hlt3, gp.alloc _, hb9.alloc hb9.size _, hne2 hf3⟩
      · go_wp2_with fail
        go_meet
        exact ⟨w0.heap.size, A3, c3, rfl, ((gq.set1 0 (.int .i64 X)).set1 1 (.int .i64 Y)).set1 2 (.slice A3 r.length c3), (((hr3.other (hne hf3)).other (hne hf3)).other (hne hf3)).lift (by simp), g0.lt, ((gp.other (by have := g0.lt; omega)).other (by have := g0.lt; omega)).other (by have := g0.lt; omega), ((hb9.setCell hb0.size _).setCell hb0.size _).setCell hb0.size _, hne3 hf3⟩
    · obtain rfl : N = 2 := by omega
      obtain rfl : k = 2 := by omega
      obtain rfl : r = [] := List.eq_nil_of_length_eq_zero (by have := HN2.out; omega)
      have HT := Lib.hid (fun (w1 : World) (hb : Below w.heap.size w w1) => by have := HTL.out w1 hb; rw [if_pos rfl] at this; exact this)
      have HN2 : Hid (0 = ([] : List UInt8).length) := Lib.hid rfl
      clear HTL hk2 hk hn2 hi2 hik hd2 hdk
      go_region_held3 (fun w' => w'.cell? ad = some (.int .u8 (X : Int)) ∧ w'.cell? ⟨ad.block, ad.off + 1, none⟩ = some (.int .u8 (Y : Int)))
        (first | with_reducible exact HSS.out _ hb0 | with_reducible exact HSS.out _ hb0.drew | with_reducible exact HSS.out _ hb9 | with_reducible exact HSS.out _ hb9.drew | with_reducible exact HSS.out _ (Below.alloc hb9 hb9.size _) | with_reducible exact HSS.out _ (Below.alloc hb9.drew hb9.size _) | with_reducible exact HSS.out _ (Below.drew (Below.alloc hb0 hb0.size _)) | with_reducible exact HSS.out _ (((Below.setCell hb9 hb0.size _).setCell hb0.size _).setCell hb0.size _) | go_keep)
        (first
         | (go_at_call 80
            with_reducible refine (HCL.out _ _ _ HN2.out HT.out _ ?_).mono ?_
            · first | with_reducible exact hb0.drew | with_reducible exact hb0
            rintro e w3 ⟨A3, c3, rfl, hr3, hb9, hb3, hf3⟩
            have gp : Blk w3 w.heap.size (ordC 0 0 none 0 0) 26 := Blk.below (Blk.dr g0) hb3 g0.lt
            have hlt3 : w.heap.size < w3.heap.size := gp.lt)
         | (go_at_call 80
            with_reducible refine (HCL.out _ _ _ HN2.out HT.out _ ?_).mono ?_
            · with_reducible exact Below.drew (Below.alloc hb0 hb0.size _)
            rintro e w3 ⟨A3, c3, rfl, hr3, hb9, hb3, hf3⟩
            have gp : Blk w3 w.heap.size (ordC 0 0 none 0 0) 26 := Blk.below (Blk.dr (Blk.alloc g0 _)) hb3 (Nat.lt_trans g0.lt hlt0)
            have gq : Blk w3 w0.heap.size (ordC 0 0 none 0 0) 26 := Blk.below (Blk.dr (Blk.new w0 (ordC 0 0 none 0 0) 26)) hb3 hlt0
            obtain ⟨p0, p1, p2⟩ := blk_o gq
            obtain ⟨f0, f1, f2, -, -, -⟩ := blk_f gq))
      · go_wp2_with fail
        go_meet
        exact ⟨w3.heap.size, A3, c3, rfl, Blk.new w3 (ordC X Y A3 0 c3) _, (hr3.below ((Below.refl _ _).alloc (Nat.le_refl _) _)).lift (by simp), hlt3, gp.alloc _, hb9.alloc hb9.size _, hne2 hf3⟩
      · go_wp2_with fail
        go_meet
        exact ⟨w0.heap.size, A3, c3, rfl, ((gq.set1 0 (.int .i64 X)).set1 1 (.int .i64 Y)).set1 2 (.slice A3 0 c3), (((hr3.other (hne hf3)).other (hne hf3)).other (hne hf3)).lift (by simp), g0.lt, ((gp.other (by have := g0.lt; omega)).other (by have := g0.lt; omega)).other (by have := g0.lt; omega), ((hb9.setCell hb0.size _).setCell hb0.size _).setCell hb0.size _, hne3 hf3⟩
  case rest =>
    obtain ⟨G, A3, c3, rfl, gG, hr3, hG, g9, hb9, hA3⟩ := hcut
    have hE : rdO (x :: y :: r) = if ordS (X : Int) (Y : Int) r.length = 0 then ((X : Int), (Y : Int), r, 0) else (0, 0, [], ordS (X : Int) (Y : Int) r.length) := by
      rw [← hX, ← hY]
      rfl
    have HE := Lib.hid hE
    have HC := Lib.hid (fun w => HCH.out A3 r.length c3 w)
    generalize rdO (x :: y :: r) = Z at *
    unfold ordV at HC
    clear hE HSS HCL HTL HCH hX hY hN2 hN0 hN1 hn0 hn1 hn2 hi2 hik hd2 hdk hne hne2 hne3 hlt0 hb0 g0 c0 c1 e0 e1
    obtain ⟨p0, p1, p2⟩ := blk_o gG
    by_cases hF : ordS (X : Int) (Y : Int) r.length = 0
    · have hF2 : (ordS (X : Int) (Y : Int) r.length != 0) = false := by simpa using hF
      have HZ : Hid (Z = ((X : Int), (Y : Int), r, 0)) := Lib.hid (by rw [HE.out, if_pos hF])
      clear HE hF
      generalize ordS (X : Int) (Y : Int) r.length = F at *
      go_wp2_with fail
      refine (HC.out _).mono ?_
      rintro e w4 ⟨rfl, hb4⟩
      clear p0 p1 p2
      have hs9 := hb9.size
      have gG4 := gG.below hb4 gG.lt
      have g4 := g9.below hb4 g9.lt
      obtain ⟨p0, p1, p2⟩ := blk_o gG4
      obtain ⟨q0, q1, q2⟩ := blk_o g4
      obtain ⟨f0, f1, f2, -, -, -⟩ := blk_f g4
      go_wp2_with fail
      refine bodyPost_ret (v := .tuple #[.agg #[.int .i64 X, .int .i64 Y, .slice A3 r.length c3], .int .i64 0]) (by simp [results, Try.results48, go_sem, q0, q1, q2]) rfl ?_
      rw [HZ.out]
      refine ⟨A3, c3, rfl, ?_, (((hb9.trans (hb4.mono hs9)).setCell (Nat.le_refl _) _).setCell (Nat.le_refl _) _).setCell (Nat.le_refl _) _⟩
      exact (((((hr3.below hb4).lift hb4.size).other hA3).other hA3).other hA3).lift (by simp)
    · have hF2 : (ordS (X : Int) (Y : Int) r.length != 0) = true := by simpa using hF
      have HZ : Hid (Z = (0, 0, [], ordS (X : Int) (Y : Int) r.length)) := Lib.hid (by rw [HE.out, if_neg hF])
      clear HE hF
      generalize ordS (X : Int) (Y : Int) r.length = F at *
      go_wp2_with fail
      refine (HC.out _).mono ?_
      rintro e w4 ⟨rfl, hb4⟩
      clear p0 p1 p2
      have hs9 := hb9.size
      have g4 := g9.below hb4 g9.lt
      obtain ⟨q0, q1, q2⟩ := blk_o g4
      obtain ⟨f0, f1, f2, -, -, -⟩ := blk_f g4
      go_wp2_with fail
      refine bodyPost_ret (v := .tuple #[.agg #[.int .i64 0, .int .i64 0, .slice none 0 0], .int .i64 F]) (by simp [results, Try.results48, go_sem, q0, q1, q2]) rfl ?_
      rw [HZ.out]
      exact ⟨none, 0, rfl, .inl rfl, (((hb9.trans (hb4.mono hs9)).setCell (Nat.le_refl _) _).setCell (Nat.le_refl _) _).setCell (Nat.le_refl _) _⟩
set_option maxRecDepth 100000 in
set_option maxHeartbeats 400000 in
theorem r_readOrder_any (A : Option Addr) (l : List UInt8) (k B : Nat) (w : World) (hB : B ≤ w.heap.size) (hk : l.length ≤ k) (hs : l.length ≤ 140737488355328) (h : BR w B A l) :
    Calls Try.prog 48 #[.slice A l.length k] w (OrdPost (rdO l) w) := by
  by_cases hn : l.length < 2
  · have hi : (l.length : Int) < 2 := by omega
    have HZ : Hid (rdO l = (0, 0, [], 3)) := Lib.hid (by
      match l, hn with
      | [], _ => rfl
      | [_], _ => rfl
      | _ :: _ :: _, h => simp at h; omega)
    generalize rdO l = Z at *
    clear hn
    go_enter Try.func48, Try.ntmps48
    go_wp2_with fail
    refine bodyPost_ret (v := .tuple #[.agg #[.int .i64 0, .int .i64 0, .slice none 0 0], .int .i64 3]) (by simp [results, Try.results48, go_sem]) rfl ?_
    rw [HZ.out]
    exact ⟨none, 0, rfl, .inl rfl, (Below.refl _ _).alloc (Nat.le_refl _) _⟩
  · obtain ⟨x, y, r, rfl⟩ : ∃ x y r, l = x :: y :: r := by
      match l, hn with
      | x :: y :: r, _ => exact ⟨x, y, r, rfl⟩
      | [], h => simp at h
      | [_], h => simp at h
    obtain ⟨ad, rfl, -, -⟩ := h.get 0 (by simp)
    exact r_readOrder_good ad x y r k _ B w hB (by simp) hk hs h
end Go.Proofs.Yteikggieekhfkaa
