/- Encode of the reference, whole. -/
import Derived.Test.YthcijelebjgfkaaPgEncP
import Derived.Test.YthcijelebjgfkaaRSumOf
namespace Go.Proofs.Ythcijelebjgfkaa
open Go.RowKit

theorem str_cells (s : ByteArray) (w : World) : Cells (w.drew.alloc (.cells (bytesRow s (grownCap w s.size 0 5)) 5 ((bytesRow s (grownCap w s.size 0 5)).size, (bytesRow s (grownCap w s.size 0 5)).size + 1))) (w.heap.size + 1) (some ⟨w.heap.size, 0, none⟩) (s.data.toList.map bv) := by
  refine .inr ⟨_, rfl, by simp, fun j v hv => ?_⟩
  have hj : j < s.data.size := by
    have := (List.getElem?_eq_some_iff.1 hv).1
    simpa using this
  have e2 : (⟨w.heap.size, 0, none⟩ : Addr).add j = ⟨w.heap.size, j, none⟩ := by by_cases h : j = 0 <;> simp [Addr.add, h]
  rw [e2]
  have := World.cell?_alloc_mark w.drew (bytesRow s (grownCap w s.size 0 5)) 5 ((bytesRow s (grownCap w s.size 0 5)).size, (bytesRow s (grownCap w s.size 0 5)).size + 1) j
  have hz : w.drew.heap.size = w.heap.size := rfl
  rw [hz] at this
  have e3 : s.data[j]? = some s.data[j] := Array.getElem?_eq_getElem hj
  rw [this, bytesRow_at s _ j hj, ← hv, List.getElem?_map, Array.getElem?_toList, e3]
  rfl
theorem str_cells2 (s : ByteArray) (w : World) (n : Nat) (hn : n = w.heap.size) : Cells ((w.alloc (.cells (bytesRow s (grownCap w s.size 0 5)) 5 ((bytesRow s (grownCap w s.size 0 5)).size, (bytesRow s (grownCap w s.size 0 5)).size + 1))).drew) (w.heap.size + 1) (some ⟨n, 0, none⟩) (s.data.toList.map bv) := by
  subst hn
  exact str_cells s w
theorem sz1 (w : World) (o : Obj) : w.heap.size + 1 = (w.alloc o).heap.size := by simp
theorem sz2 (w : World) (o p : Obj) : w.heap.size + 1 + 1 = ((w.alloc o).alloc p).heap.size := by simp
theorem head_lit (G I n m : Nat) (k l : UInt8) (kz lz : Int) (hG : G ≤ 4000000000) (hI : I ≤ 65535) (hn : n < 256) (hm : m ≤ 65535) (hk : kz = (k.toNat : Int)) (hl : lz = (l.toNat : Int)) :
    [UInt8.ofNat (G / 256 ^ 3), UInt8.ofNat (G / 256 ^ 2), UInt8.ofNat (G / 256 ^ 1), UInt8.ofNat (G / 256 ^ 0), k, UInt8.ofNat n, UInt8.ofNat (I / 256 ^ 1), UInt8.ofNat (I / 256 ^ 0), UInt8.ofNat (m / 256 ^ 1), UInt8.ofNat (m / 256 ^ 0), l, 0].map bv =
      [.int .u8 ((G : Int) / 16777216), .int .u8 ((G : Int) / 65536 % 256), .int .u8 ((G : Int) / 256 % 256), .int .u8 ((G : Int) % 256), .int .u8 kz, .int .u8 (n : Int), .int .u8 ((I : Int) / 256), .int .u8 ((I : Int) % 256), .int .u8 ((m : Int) / 256), .int .u8 ((m : Int) % 256), .int .u8 lz, .int .u8 0] := by
  subst hk hl
  simp [bv]
  omega
theorem two_lit (K : Nat) (h : K < 65536) : (bigE K 2 ++ [165]).map bv = [.int .u8 ((K : Int) / 256), .int .u8 ((K : Int) % 256), .int .u8 165] := by
  simp [bv, bigE]
  omega
theorem lit_blk {base n a b k : Nat} (h : base ≤ n) (hk : (Value.slice (some ⟨n, 0, none⟩) a b).ownBlock = some k) : base ≤ k := by
  cases hk
  exact h
theorem al1 (w : World) (o : Obj) : w.heap.size + 1 ≤ (w.alloc o).heap.size := by simp
theorem al2 (w : World) (o p : Obj) : w.heap.size + 1 ≤ ((w.alloc o).alloc p).heap.size := by rw [World.size_alloc, World.size_alloc]; omega
theorem al3 (w : World) (o p q : Obj) : w.heap.size + 1 ≤ (((w.alloc o).alloc p).alloc q).heap.size := by rw [World.size_alloc, World.size_alloc, World.size_alloc]; omega
theorem lit_own (LH : List UInt8) (hl : LH.length = 12) (base : Nat) (W : World) (C : Array Value) (O : Obj) (n : Nat) (hC : C = (LH.map bv).toArray) (hW : base ≤ W.heap.size) (hn : n = W.heap.size) :
    ((W.alloc (.cells C 5)).alloc O).drew.ownsRow base 5 1 (.slice (some ⟨n, 0, none⟩) 12 12) 12 (LH.map bv) := by
  subst hC hn
  have hq := World.ownsRow_lit (e := 5) (size := 1) (base := base) W (LH.map bv).toArray 12 hW (by simp [maxLen]) (by simp [hl])
  exact World.ownsRow.alloc hq O
set_option maxRecDepth 100000 in
set_option maxHeartbeats 4000000 in
theorem rencode_g1 (ps G I : Nat) (nm : ByteArray) (b : List UInt8) (A : Option Addr) (c : Nat) (w : World) (hok : PgOk ps ⟨G, false, nm, I, false, b⟩) (h : BR w w.heap.size A b) :
    Calls Try.prog 18 #[.int .i64 ps, pgV ⟨G, false, nm, I, false, b⟩ A c] w fun e w' => ∃ v, e = .returned (.tuple #[v, .int .i64 0]) ∧ Own w' w.heap.size v (pgB ps ⟨G, false, nm, I, false, b⟩) ∧ Below w.heap.size w w' := by
  have h1 := hok.hp
  have h2 := hok.hg
  have h3 := hok.hn
  have h4 := hok.hi
  have h5 := hok.hl
  have h6 := hok.ho
  dsimp only at h2 h3 h4 h5
  obtain ⟨hn1, hn2⟩ := nmB_len h3
  have hsz : nm.data.toList.length = nm.size := rfl
  rw [hsz] at hn1 hn2
  have HNM := Lib.hid (fun w1 => isNameR_any nm w1 (by omega))
  rw [h3] at HNM
  have HR := Lib.hid (fun w1 => room_any ps nm w1 h1 hn2)
  have hHl := pgHead_len ⟨G, false, nm, I, false, b⟩
  have hHd : pgHead ⟨G, false, nm, I, false, b⟩ = ([UInt8.ofNat (G / 256 ^ 3), UInt8.ofNat (G / 256 ^ 2), UInt8.ofNat (G / 256 ^ 1), UInt8.ofNat (G / 256 ^ 0), kindU ⟨G, false, nm, I, false, b⟩, UInt8.ofNat nm.size, UInt8.ofNat (I / 256 ^ 1), UInt8.ofNat (I / 256 ^ 0), UInt8.ofNat (b.length / 256 ^ 1), UInt8.ofNat (b.length / 256 ^ 0), lastU ⟨G, false, nm, I, false, b⟩, 0] ++ nm.data.toList) ++ b := by simp [pgHead, bigE]
  have HPB : Hid (pgB ps ⟨G, false, nm, I, false, b⟩ = (pgHead ⟨G, false, nm, I, false, b⟩ ++ List.replicate (ps - 3 - (pgHead ⟨G, false, nm, I, false, b⟩).length) 255) ++ (bigE (crcN (pgHead ⟨G, false, nm, I, false, b⟩ ++ List.replicate (ps - 3 - (pgHead ⟨G, false, nm, I, false, b⟩).length) 255)) 2 ++ [165])) := rfl
  have HK : Hid (kindU ⟨G, false, nm, I, false, b⟩ = 1) := rfl
  have HLU : Hid (lastU ⟨G, false, nm, I, false, b⟩ = 0) := rfl
  unfold pgV
  dsimp only
  generalize pgB ps ⟨G, false, nm, I, false, b⟩ = PB at *
  generalize pgHead ⟨G, false, nm, I, false, b⟩ = PH at *
  generalize kindU ⟨G, false, nm, I, false, b⟩ = KU at *
  generalize lastU ⟨G, false, nm, I, false, b⟩ = LU at *
  have HHl : Hid (PH.length = 12 + nm.size + b.length) := Lib.hid hHl
  have HHd := Lib.hid hHd
  have HSZ := Lib.hid hsz
  clear hHl hHd hok h3 h6 hsz
  have d1 : decide ((64 : Int) ≤ (ps : Int) ∧ (ps : Int) ≤ 1024) = true := decide_eq_true h1
  have d2 : decide ((1 : Int) ≤ (G : Int) ∧ (G : Int) ≤ 4000000000) = true := decide_eq_true h2
  have d4 : decide ((0 : Int) ≤ (I : Int) ∧ (I : Int) ≤ 65535) = true := decide_eq_true h4
  have d5 : decide ((ps : Int) - 15 - (nm.size : Int) < (b.length : Int)) = false := decide_eq_false (by omega)
  obtain ⟨hp1, hp2⟩ := h1
  obtain ⟨hG1, hG⟩ := h2
  obtain ⟨-, hI⟩ := h4
  have hbl : nm.size + b.length + 15 ≤ ps := by omega
  have kc := fun (w : World) => run_bytes_of_string (P := Try.prog) w 9 22 5 nm Try.underlying9 Try.underlying22 Try.underlying5
  clear h5
  obtain ⟨N, hN0⟩ : ∃ N, N = ps - 3 - PH.length := ⟨_, rfl⟩
  have hPl := HHl.out
  have hN : (ps : Int) - 3 - (PH.length : Int) = (N : Int) := by omega
  have hPN : PH.length + N ≤ 1100 := by omega
  rw [← hN0] at HPB
  clear hN0 hPl HHl
  have hku := HK.out
  have hlu := HLU.out
  rw [hku, hlu] at HHd
  have HLT := head_lit G I nm.size b.length KU LU _ _ (by omega) (by omega) (by omega) (by omega) rfl rfl
  rw [hku, hlu] at HLT
  obtain ⟨LH, hLH⟩ : ∃ LH, LH = [UInt8.ofNat (G / 256 ^ 3), UInt8.ofNat (G / 256 ^ 2), UInt8.ofNat (G / 256 ^ 1), UInt8.ofNat (G / 256 ^ 0), 1, UInt8.ofNat nm.size, UInt8.ofNat (I / 256 ^ 1), UInt8.ofNat (I / 256 ^ 0), UInt8.ofNat (b.length / 256 ^ 1), UInt8.ofNat (b.length / 256 ^ 0), 0, 0] := ⟨_, rfl⟩
  rw [← hLH] at HHd HLT
  have hLHl : LH.length = 12 := by rw [hLH]; rfl
  have HLT2 := Lib.hid HLT
  have HLN := Lib.hid hLHl
  have HLL := Lib.hid (fun (W : World) (v : Value) (xs : List Value) (q : W.ownsRow (w.heap.size + 1) 5 1 v (12 + nm.size) xs) => (by rw [hLHl]; exact q : W.ownsRow (w.heap.size + 1) 5 1 v (LH.length + nm.size) xs))
  have HS5 : Hid ((LH ++ nm.data.toList).length = 12 + nm.size) := Lib.hid (by rw [List.length_append, hLHl, HSZ.out])
  clear hLH hLHl hku hlu HK HLU HLT
  go_enter Try.func18, Try.ntmps18
  go_wp2_with (first | (go_at_call 46; refine (fwithin_any _ _ _ _).mono ?_; rintro e w' ⟨rfl, rfl⟩) | (go_at_call 47; refine (HNM.out _).mono ?_; rintro e w' ⟨rfl, rfl⟩) | fail)
  go_quiet ((go_at_call 48; exact quiet_eq (HR.out _)))
  go_wp2_with (first
    | (at_builtin; refine wpList_app _ rfl (.tmp 95) (.tmp 98) 22 5 1 1 rfl elem8 (w.heap.size + 1) _ 12 (LH.map bv) rfl (lit_own LH HLN.out _ _ _ _ _ (by rw [HLT2.out]; rfl) (by exact al1 w _) (by exact sz1 w _)) _ _ nm.size _ (nm.data.toList.map bv) rfl (by rw [List.length_map, HSZ.out, Nat.mul_one]) (str_cells2 nm _ _ (by exact sz2 w _ _)) (bv_one _) (by unfold maxLen; omega) (by omega) (by exact al3 w _ _ _) ?_; intro v5 w5 hown5 hgrow5 hat5; have hb5 := (((below_draws (Below.refl (w.heap.size + 1) _) _).alloc (by exact al1 w _) _).alloc (by exact al2 w _ _) _).drew.grown hgrow5 (by exact al3 w _ _ _) (fun k hk => lit_blk (Nat.le_refl _) hk); have hs5 : w.heap.size + 1 ≤ w5.heap.size := (by have := hb5.size; simp at this; omega); have hc5 := fun k => Below.at_ hb5 w.heap.size (by simp) k; have ho5 := Own.of (a := LH) (b := nm.data.toList) (HLL.out _ _ _ hown5) HSZ.out.symm; clear hown5 hgrow5 hat5)
    | (at_builtin; refine wpList_app _ rfl (.tmp 100) (.tmp 102) 22 5 1 1 rfl elem8 (w.heap.size + 1) v5 _ _ rfl ho5 w.heap.size A b.length c (b.map bv) rfl (by simp) (h.below (((Below.refl _ _).alloc (Nat.le_refl _) _).trans (hb5.mono (by omega)))) (bv_one _) (by have := HS5.out; unfold maxLen; omega) (by have := HS5.out; omega) hs5 ?_; intro v7 w7 hown7 hgrow7 hat7; have hb7 := hb5.grown hgrow7 hs5 (fun k hk => (ho5.lt k hk).1); have hs7 : w.heap.size + 1 ≤ w7.heap.size := (by have := hgrow7.size; omega); have ho7 := Own.of hown7 rfl; rw [← HHd.out] at ho7; clear hown7 hgrow7 hat7 ho5 hc5; obtain ⟨A7, c7, rfl, -⟩ := ho7.form)
    | fail)
  refine (filled_any N w7 (by omega)).mono ?_
  rintro e w8 ⟨g, rfl, hg, hr8, hb8⟩
  have ho8 := ho7.after hb8 (Nat.le_refl _)
  have hb08 := hb7.trans (hb8.mono hs7)
  have hs8 : w.heap.size + 1 ≤ w8.heap.size := Nat.le_trans hs7 hb8.size
  clear ho7 hb7
  go_wp2_with (first
    | (at_builtin; refine wpList_app _ rfl (.tmp 104) (.tmp 110) 22 5 1 1 rfl elem8 (w.heap.size + 1) (.slice A7 PH.length c7) _ _ rfl ho8 w8.heap.size _ N N ((List.replicate N 255).map bv) rfl (by simp) hr8.br (bv_one _) (by unfold maxLen; omega) (by omega) hs8 ?_; intro v9 w9 hown9 hgrow9 hat9; have hb9 := hb08.grown hgrow9 hs8 (fun k hk => (ho8.lt k hk).1); have hs9 : w.heap.size + 1 ≤ w9.heap.size := (by have := hgrow9.size; omega); have ho9 := Own.of (b := List.replicate N 255) hown9 (by simp); clear hown9 hgrow9 hat9 ho8; obtain ⟨A9, c9, hv9, hB9⟩ := ho9.form; rw [List.length_append, List.length_replicate] at hv9; subst hv9)
    | fail)
  have hLl : (PH ++ List.replicate N 255).length = PH.length + N := by simp
  have HLl := Lib.hid hLl
  generalize PH ++ List.replicate N 255 = L at *
  have hLb : L.length ≤ 2000 := by omega
  clear hLl
  have hsm := rsumOf_any A9 c9 L w9.heap.size w9 (by omega) hB9
  unfold crc at hsm
  rw [HLl.out] at hsm
  have HTL := Lib.hid (two_lit (crcN L) (crcN_lt L))
  have hK := crcN_lt L
  generalize crcN L = K at *
  obtain ⟨BK, hBK⟩ : ∃ BK, BK = bigE K 2 ++ [165] := ⟨_, rfl⟩
  rw [← hBK] at HTL HPB
  have HBL : Hid (BK.length = 3) := Lib.hid (by rw [hBK]; simp [bigE])
  clear hBK
  have HSM := Lib.hid hsm
  clear hsm hB9
  refine HSM.out.mono ?_
  rintro e w' ⟨rfl, rfl⟩
  go_wp2_with (first
    | (at_builtin; refine wpList_app _ rfl (.tmp 114) (.tmp 120) 22 5 1 1 rfl elem8 (w.heap.size + 1) (.slice A9 (PH.length + N) c9) _ _ rfl (World.ownsRow.alloc ho9 _) (w9.heap.size + 1) _ 3 3 (BK.map bv) rfl (by rw [List.length_map, HBL.out]) (Cells.fresh w9 _ 5 _ _ (by rw [HTL.out])) (bv_one _) (by unfold maxLen; omega) (by omega) (by simp; omega) ?_; intro v10 w10 hown10 hgrow10 hat10)
    | fail)
  have ho10 := Own.of (b := BK) hown10 HBL.out.symm
  have hb10 := (hb9.alloc hs9 _).grown hgrow10 (by simp; omega) (fun k hk => (ho9.lt k hk).1)
  go_ret2
  refine ⟨v10, rfl, ?_, ((Below.refl _ _).alloc (Nat.le_refl _) _).trans (hb10.mono (by omega))⟩
  rw [HPB.out]
  exact ho10.lower (by omega)
set_option maxRecDepth 100000 in
set_option maxHeartbeats 4000000 in
theorem rencode_g2 (ps G I : Nat) (nm : ByteArray) (b : List UInt8) (A : Option Addr) (c : Nat) (w : World) (hok : PgOk ps ⟨G, false, nm, I, true, b⟩) (h : BR w w.heap.size A b) :
    Calls Try.prog 18 #[.int .i64 ps, pgV ⟨G, false, nm, I, true, b⟩ A c] w fun e w' => ∃ v, e = .returned (.tuple #[v, .int .i64 0]) ∧ Own w' w.heap.size v (pgB ps ⟨G, false, nm, I, true, b⟩) ∧ Below w.heap.size w w' := by
  have h1 := hok.hp
  have h2 := hok.hg
  have h3 := hok.hn
  have h4 := hok.hi
  have h5 := hok.hl
  have h6 := hok.ho
  dsimp only at h2 h3 h4 h5
  obtain ⟨hn1, hn2⟩ := nmB_len h3
  have hsz : nm.data.toList.length = nm.size := rfl
  rw [hsz] at hn1 hn2
  have HNM := Lib.hid (fun w1 => isNameR_any nm w1 (by omega))
  rw [h3] at HNM
  have HR := Lib.hid (fun w1 => room_any ps nm w1 h1 hn2)
  have hHl := pgHead_len ⟨G, false, nm, I, true, b⟩
  have hHd : pgHead ⟨G, false, nm, I, true, b⟩ = ([UInt8.ofNat (G / 256 ^ 3), UInt8.ofNat (G / 256 ^ 2), UInt8.ofNat (G / 256 ^ 1), UInt8.ofNat (G / 256 ^ 0), kindU ⟨G, false, nm, I, true, b⟩, UInt8.ofNat nm.size, UInt8.ofNat (I / 256 ^ 1), UInt8.ofNat (I / 256 ^ 0), UInt8.ofNat (b.length / 256 ^ 1), UInt8.ofNat (b.length / 256 ^ 0), lastU ⟨G, false, nm, I, true, b⟩, 0] ++ nm.data.toList) ++ b := by simp [pgHead, bigE]
  have HPB : Hid (pgB ps ⟨G, false, nm, I, true, b⟩ = (pgHead ⟨G, false, nm, I, true, b⟩ ++ List.replicate (ps - 3 - (pgHead ⟨G, false, nm, I, true, b⟩).length) 255) ++ (bigE (crcN (pgHead ⟨G, false, nm, I, true, b⟩ ++ List.replicate (ps - 3 - (pgHead ⟨G, false, nm, I, true, b⟩).length) 255)) 2 ++ [165])) := rfl
  have HK : Hid (kindU ⟨G, false, nm, I, true, b⟩ = 1) := rfl
  have HLU : Hid (lastU ⟨G, false, nm, I, true, b⟩ = 1) := rfl
  unfold pgV
  dsimp only
  generalize pgB ps ⟨G, false, nm, I, true, b⟩ = PB at *
  generalize pgHead ⟨G, false, nm, I, true, b⟩ = PH at *
  generalize kindU ⟨G, false, nm, I, true, b⟩ = KU at *
  generalize lastU ⟨G, false, nm, I, true, b⟩ = LU at *
  have HHl : Hid (PH.length = 12 + nm.size + b.length) := Lib.hid hHl
  have HHd := Lib.hid hHd
  have HSZ := Lib.hid hsz
  clear hHl hHd hok h3 h6 hsz
  have d1 : decide ((64 : Int) ≤ (ps : Int) ∧ (ps : Int) ≤ 1024) = true := decide_eq_true h1
  have d2 : decide ((1 : Int) ≤ (G : Int) ∧ (G : Int) ≤ 4000000000) = true := decide_eq_true h2
  have d4 : decide ((0 : Int) ≤ (I : Int) ∧ (I : Int) ≤ 65535) = true := decide_eq_true h4
  have d5 : decide ((ps : Int) - 15 - (nm.size : Int) < (b.length : Int)) = false := decide_eq_false (by omega)
  obtain ⟨hp1, hp2⟩ := h1
  obtain ⟨hG1, hG⟩ := h2
  obtain ⟨-, hI⟩ := h4
  have hbl : nm.size + b.length + 15 ≤ ps := by omega
  have kc := fun (w : World) => run_bytes_of_string (P := Try.prog) w 9 22 5 nm Try.underlying9 Try.underlying22 Try.underlying5
  clear h5
  obtain ⟨N, hN0⟩ : ∃ N, N = ps - 3 - PH.length := ⟨_, rfl⟩
  have hPl := HHl.out
  have hN : (ps : Int) - 3 - (PH.length : Int) = (N : Int) := by omega
  have hPN : PH.length + N ≤ 1100 := by omega
  rw [← hN0] at HPB
  clear hN0 hPl HHl
  have hku := HK.out
  have hlu := HLU.out
  rw [hku, hlu] at HHd
  have HLT := head_lit G I nm.size b.length KU LU _ _ (by omega) (by omega) (by omega) (by omega) rfl rfl
  rw [hku, hlu] at HLT
  obtain ⟨LH, hLH⟩ : ∃ LH, LH = [UInt8.ofNat (G / 256 ^ 3), UInt8.ofNat (G / 256 ^ 2), UInt8.ofNat (G / 256 ^ 1), UInt8.ofNat (G / 256 ^ 0), 1, UInt8.ofNat nm.size, UInt8.ofNat (I / 256 ^ 1), UInt8.ofNat (I / 256 ^ 0), UInt8.ofNat (b.length / 256 ^ 1), UInt8.ofNat (b.length / 256 ^ 0), 1, 0] := ⟨_, rfl⟩
  rw [← hLH] at HHd HLT
  have hLHl : LH.length = 12 := by rw [hLH]; rfl
  have HLT2 := Lib.hid HLT
  have HLN := Lib.hid hLHl
  have HLL := Lib.hid (fun (W : World) (v : Value) (xs : List Value) (q : W.ownsRow (w.heap.size + 1) 5 1 v (12 + nm.size) xs) => (by rw [hLHl]; exact q : W.ownsRow (w.heap.size + 1) 5 1 v (LH.length + nm.size) xs))
  have HS5 : Hid ((LH ++ nm.data.toList).length = 12 + nm.size) := Lib.hid (by rw [List.length_append, hLHl, HSZ.out])
  clear hLH hLHl hku hlu HK HLU HLT
  go_enter Try.func18, Try.ntmps18
  go_wp2_with (first | (go_at_call 46; refine (fwithin_any _ _ _ _).mono ?_; rintro e w' ⟨rfl, rfl⟩) | (go_at_call 47; refine (HNM.out _).mono ?_; rintro e w' ⟨rfl, rfl⟩) | fail)
  go_quiet ((go_at_call 48; exact quiet_eq (HR.out _)))
  go_wp2_with (first
    | (at_builtin; refine wpList_app _ rfl (.tmp 95) (.tmp 98) 22 5 1 1 rfl elem8 (w.heap.size + 1) _ 12 (LH.map bv) rfl (lit_own LH HLN.out _ _ _ _ _ (by rw [HLT2.out]; rfl) (by exact al1 w _) (by exact sz1 w _)) _ _ nm.size _ (nm.data.toList.map bv) rfl (by rw [List.length_map, HSZ.out, Nat.mul_one]) (str_cells2 nm _ _ (by exact sz2 w _ _)) (bv_one _) (by unfold maxLen; omega) (by omega) (by exact al3 w _ _ _) ?_; intro v5 w5 hown5 hgrow5 hat5; have hb5 := (((below_draws (Below.refl (w.heap.size + 1) _) _).alloc (by exact al1 w _) _).alloc (by exact al2 w _ _) _).drew.grown hgrow5 (by exact al3 w _ _ _) (fun k hk => lit_blk (Nat.le_refl _) hk); have hs5 : w.heap.size + 1 ≤ w5.heap.size := (by have := hb5.size; simp at this; omega); have hc5 := fun k => Below.at_ hb5 w.heap.size (by simp) k; have ho5 := Own.of (a := LH) (b := nm.data.toList) (HLL.out _ _ _ hown5) HSZ.out.symm; clear hown5 hgrow5 hat5)
    | (at_builtin; refine wpList_app _ rfl (.tmp 100) (.tmp 102) 22 5 1 1 rfl elem8 (w.heap.size + 1) v5 _ _ rfl ho5 w.heap.size A b.length c (b.map bv) rfl (by simp) (h.below (((Below.refl _ _).alloc (Nat.le_refl _) _).trans (hb5.mono (by omega)))) (bv_one _) (by have := HS5.out; unfold maxLen; omega) (by have := HS5.out; omega) hs5 ?_; intro v7 w7 hown7 hgrow7 hat7; have hb7 := hb5.grown hgrow7 hs5 (fun k hk => (ho5.lt k hk).1); have hs7 : w.heap.size + 1 ≤ w7.heap.size := (by have := hgrow7.size; omega); have ho7 := Own.of hown7 rfl; rw [← HHd.out] at ho7; clear hown7 hgrow7 hat7 ho5 hc5; obtain ⟨A7, c7, rfl, -⟩ := ho7.form)
    | fail)
  refine (filled_any N w7 (by omega)).mono ?_
  rintro e w8 ⟨g, rfl, hg, hr8, hb8⟩
  have ho8 := ho7.after hb8 (Nat.le_refl _)
  have hb08 := hb7.trans (hb8.mono hs7)
  have hs8 : w.heap.size + 1 ≤ w8.heap.size := Nat.le_trans hs7 hb8.size
  clear ho7 hb7
  go_wp2_with (first
    | (at_builtin; refine wpList_app _ rfl (.tmp 104) (.tmp 110) 22 5 1 1 rfl elem8 (w.heap.size + 1) (.slice A7 PH.length c7) _ _ rfl ho8 w8.heap.size _ N N ((List.replicate N 255).map bv) rfl (by simp) hr8.br (bv_one _) (by unfold maxLen; omega) (by omega) hs8 ?_; intro v9 w9 hown9 hgrow9 hat9; have hb9 := hb08.grown hgrow9 hs8 (fun k hk => (ho8.lt k hk).1); have hs9 : w.heap.size + 1 ≤ w9.heap.size := (by have := hgrow9.size; omega); have ho9 := Own.of (b := List.replicate N 255) hown9 (by simp); clear hown9 hgrow9 hat9 ho8; obtain ⟨A9, c9, hv9, hB9⟩ := ho9.form; rw [List.length_append, List.length_replicate] at hv9; subst hv9)
    | fail)
  have hLl : (PH ++ List.replicate N 255).length = PH.length + N := by simp
  have HLl := Lib.hid hLl
  generalize PH ++ List.replicate N 255 = L at *
  have hLb : L.length ≤ 2000 := by omega
  clear hLl
  have hsm := rsumOf_any A9 c9 L w9.heap.size w9 (by omega) hB9
  unfold crc at hsm
  rw [HLl.out] at hsm
  have HTL := Lib.hid (two_lit (crcN L) (crcN_lt L))
  have hK := crcN_lt L
  generalize crcN L = K at *
  obtain ⟨BK, hBK⟩ : ∃ BK, BK = bigE K 2 ++ [165] := ⟨_, rfl⟩
  rw [← hBK] at HTL HPB
  have HBL : Hid (BK.length = 3) := Lib.hid (by rw [hBK]; simp [bigE])
  clear hBK
  have HSM := Lib.hid hsm
  clear hsm hB9
  refine HSM.out.mono ?_
  rintro e w' ⟨rfl, rfl⟩
  go_wp2_with (first
    | (at_builtin; refine wpList_app _ rfl (.tmp 114) (.tmp 120) 22 5 1 1 rfl elem8 (w.heap.size + 1) (.slice A9 (PH.length + N) c9) _ _ rfl (World.ownsRow.alloc ho9 _) (w9.heap.size + 1) _ 3 3 (BK.map bv) rfl (by rw [List.length_map, HBL.out]) (Cells.fresh w9 _ 5 _ _ (by rw [HTL.out])) (bv_one _) (by unfold maxLen; omega) (by omega) (by simp; omega) ?_; intro v10 w10 hown10 hgrow10 hat10)
    | fail)
  have ho10 := Own.of (b := BK) hown10 HBL.out.symm
  have hb10 := (hb9.alloc hs9 _).grown hgrow10 (by simp; omega) (fun k hk => (ho9.lt k hk).1)
  go_ret2
  refine ⟨v10, rfl, ?_, ((Below.refl _ _).alloc (Nat.le_refl _) _).trans (hb10.mono (by omega))⟩
  rw [HPB.out]
  exact ho10.lower (by omega)
set_option maxRecDepth 100000 in
set_option maxHeartbeats 4000000 in
theorem rencode_g3 (ps G I : Nat) (nm : ByteArray) (b : List UInt8) (A : Option Addr) (c : Nat) (w : World) (hok : PgOk ps ⟨G, true, nm, I, true, b⟩) (h : BR w w.heap.size A b) (hg0 : b.length = 0) (hg1 : (I : Int) = 0) :
    Calls Try.prog 18 #[.int .i64 ps, pgV ⟨G, true, nm, I, true, b⟩ A c] w fun e w' => ∃ v, e = .returned (.tuple #[v, .int .i64 0]) ∧ Own w' w.heap.size v (pgB ps ⟨G, true, nm, I, true, b⟩) ∧ Below w.heap.size w w' := by
  have h1 := hok.hp
  have h2 := hok.hg
  have h3 := hok.hn
  have h4 := hok.hi
  have h5 := hok.hl
  have h6 := hok.ho
  dsimp only at h2 h3 h4 h5
  obtain ⟨hn1, hn2⟩ := nmB_len h3
  have hsz : nm.data.toList.length = nm.size := rfl
  rw [hsz] at hn1 hn2
  have HNM := Lib.hid (fun w1 => isNameR_any nm w1 (by omega))
  rw [h3] at HNM
  have HR := Lib.hid (fun w1 => room_any ps nm w1 h1 hn2)
  have hHl := pgHead_len ⟨G, true, nm, I, true, b⟩
  have hHd : pgHead ⟨G, true, nm, I, true, b⟩ = ([UInt8.ofNat (G / 256 ^ 3), UInt8.ofNat (G / 256 ^ 2), UInt8.ofNat (G / 256 ^ 1), UInt8.ofNat (G / 256 ^ 0), kindU ⟨G, true, nm, I, true, b⟩, UInt8.ofNat nm.size, UInt8.ofNat (I / 256 ^ 1), UInt8.ofNat (I / 256 ^ 0), UInt8.ofNat (b.length / 256 ^ 1), UInt8.ofNat (b.length / 256 ^ 0), lastU ⟨G, true, nm, I, true, b⟩, 0] ++ nm.data.toList) ++ b := by simp [pgHead, bigE]
  have HPB : Hid (pgB ps ⟨G, true, nm, I, true, b⟩ = (pgHead ⟨G, true, nm, I, true, b⟩ ++ List.replicate (ps - 3 - (pgHead ⟨G, true, nm, I, true, b⟩).length) 255) ++ (bigE (crcN (pgHead ⟨G, true, nm, I, true, b⟩ ++ List.replicate (ps - 3 - (pgHead ⟨G, true, nm, I, true, b⟩).length) 255)) 2 ++ [165])) := rfl
  have HK : Hid (kindU ⟨G, true, nm, I, true, b⟩ = 2) := rfl
  have HLU : Hid (lastU ⟨G, true, nm, I, true, b⟩ = 1) := rfl
  unfold pgV
  dsimp only
  generalize pgB ps ⟨G, true, nm, I, true, b⟩ = PB at *
  generalize pgHead ⟨G, true, nm, I, true, b⟩ = PH at *
  generalize kindU ⟨G, true, nm, I, true, b⟩ = KU at *
  generalize lastU ⟨G, true, nm, I, true, b⟩ = LU at *
  have HHl : Hid (PH.length = 12 + nm.size + b.length) := Lib.hid hHl
  have HHd := Lib.hid hHd
  have HSZ := Lib.hid hsz
  clear hHl hHd hok h3 h6 hsz
  have d1 : decide ((64 : Int) ≤ (ps : Int) ∧ (ps : Int) ≤ 1024) = true := decide_eq_true h1
  have d2 : decide ((1 : Int) ≤ (G : Int) ∧ (G : Int) ≤ 4000000000) = true := decide_eq_true h2
  have d4 : decide ((0 : Int) ≤ (I : Int) ∧ (I : Int) ≤ 65535) = true := decide_eq_true h4
  have d5 : decide ((ps : Int) - 15 - (nm.size : Int) < (b.length : Int)) = false := decide_eq_false (by omega)
  obtain ⟨hp1, hp2⟩ := h1
  obtain ⟨hG1, hG⟩ := h2
  obtain ⟨-, hI⟩ := h4
  have hbl : nm.size + b.length + 15 ≤ ps := by omega
  have kc := fun (w : World) => run_bytes_of_string (P := Try.prog) w 9 22 5 nm Try.underlying9 Try.underlying22 Try.underlying5
  clear h5
  obtain ⟨N, hN0⟩ : ∃ N, N = ps - 3 - PH.length := ⟨_, rfl⟩
  have hPl := HHl.out
  have hN : (ps : Int) - 3 - (PH.length : Int) = (N : Int) := by omega
  have hPN : PH.length + N ≤ 1100 := by omega
  rw [← hN0] at HPB
  clear hN0 hPl HHl
  have d6 : decide ((0 : Int) < (b.length : Int)) = false := decide_eq_false (by omega)
  have d6n : decide (0 < b.length) = false := decide_eq_false (by omega)
  have d7 : ((I : Int) != 0) = false := by simpa using hg1
  clear hg0 hg1
  have hku := HK.out
  have hlu := HLU.out
  rw [hku, hlu] at HHd
  have HLT := head_lit G I nm.size b.length KU LU _ _ (by omega) (by omega) (by omega) (by omega) rfl rfl
  rw [hku, hlu] at HLT
  obtain ⟨LH, hLH⟩ : ∃ LH, LH = [UInt8.ofNat (G / 256 ^ 3), UInt8.ofNat (G / 256 ^ 2), UInt8.ofNat (G / 256 ^ 1), UInt8.ofNat (G / 256 ^ 0), 2, UInt8.ofNat nm.size, UInt8.ofNat (I / 256 ^ 1), UInt8.ofNat (I / 256 ^ 0), UInt8.ofNat (b.length / 256 ^ 1), UInt8.ofNat (b.length / 256 ^ 0), 1, 0] := ⟨_, rfl⟩
  rw [← hLH] at HHd HLT
  have hLHl : LH.length = 12 := by rw [hLH]; rfl
  have HLT2 := Lib.hid HLT
  have HLN := Lib.hid hLHl
  have HLL := Lib.hid (fun (W : World) (v : Value) (xs : List Value) (q : W.ownsRow (w.heap.size + 1) 5 1 v (12 + nm.size) xs) => (by rw [hLHl]; exact q : W.ownsRow (w.heap.size + 1) 5 1 v (LH.length + nm.size) xs))
  have HS5 : Hid ((LH ++ nm.data.toList).length = 12 + nm.size) := Lib.hid (by rw [List.length_append, hLHl, HSZ.out])
  clear hLH hLHl hku hlu HK HLU HLT
  go_enter Try.func18, Try.ntmps18
  go_wp2_with (first | (go_at_call 46; refine (fwithin_any _ _ _ _).mono ?_; rintro e w' ⟨rfl, rfl⟩) | (go_at_call 47; refine (HNM.out _).mono ?_; rintro e w' ⟨rfl, rfl⟩) | fail)
  go_quiet ((go_at_call 48; exact quiet_eq (HR.out _)))
  go_wp2_with (first
    | (at_builtin; refine wpList_app _ rfl (.tmp 95) (.tmp 98) 22 5 1 1 rfl elem8 (w.heap.size + 1) _ 12 (LH.map bv) rfl (lit_own LH HLN.out _ _ _ _ _ (by rw [HLT2.out]; rfl) (by exact al1 w _) (by exact sz1 w _)) _ _ nm.size _ (nm.data.toList.map bv) rfl (by rw [List.length_map, HSZ.out, Nat.mul_one]) (str_cells2 nm _ _ (by exact sz2 w _ _)) (bv_one _) (by unfold maxLen; omega) (by omega) (by exact al3 w _ _ _) ?_; intro v5 w5 hown5 hgrow5 hat5; have hb5 := (((below_draws (Below.refl (w.heap.size + 1) _) _).alloc (by exact al1 w _) _).alloc (by exact al2 w _ _) _).drew.grown hgrow5 (by exact al3 w _ _ _) (fun k hk => lit_blk (Nat.le_refl _) hk); have hs5 : w.heap.size + 1 ≤ w5.heap.size := (by have := hb5.size; simp at this; omega); have hc5 := fun k => Below.at_ hb5 w.heap.size (by simp) k; have ho5 := Own.of (a := LH) (b := nm.data.toList) (HLL.out _ _ _ hown5) HSZ.out.symm; clear hown5 hgrow5 hat5)
    | (at_builtin; refine wpList_app _ rfl (.tmp 100) (.tmp 102) 22 5 1 1 rfl elem8 (w.heap.size + 1) v5 _ _ rfl ho5 w.heap.size A b.length c (b.map bv) rfl (by simp) (h.below (((Below.refl _ _).alloc (Nat.le_refl _) _).trans (hb5.mono (by omega)))) (bv_one _) (by have := HS5.out; unfold maxLen; omega) (by have := HS5.out; omega) hs5 ?_; intro v7 w7 hown7 hgrow7 hat7; have hb7 := hb5.grown hgrow7 hs5 (fun k hk => (ho5.lt k hk).1); have hs7 : w.heap.size + 1 ≤ w7.heap.size := (by have := hgrow7.size; omega); have ho7 := Own.of hown7 rfl; rw [← HHd.out] at ho7; clear hown7 hgrow7 hat7 ho5 hc5; obtain ⟨A7, c7, rfl, -⟩ := ho7.form)
    | fail)
  refine (filled_any N w7 (by omega)).mono ?_
  rintro e w8 ⟨g, rfl, hg, hr8, hb8⟩
  have ho8 := ho7.after hb8 (Nat.le_refl _)
  have hb08 := hb7.trans (hb8.mono hs7)
  have hs8 : w.heap.size + 1 ≤ w8.heap.size := Nat.le_trans hs7 hb8.size
  clear ho7 hb7
  go_wp2_with (first
    | (at_builtin; refine wpList_app _ rfl (.tmp 104) (.tmp 110) 22 5 1 1 rfl elem8 (w.heap.size + 1) (.slice A7 PH.length c7) _ _ rfl ho8 w8.heap.size _ N N ((List.replicate N 255).map bv) rfl (by simp) hr8.br (bv_one _) (by unfold maxLen; omega) (by omega) hs8 ?_; intro v9 w9 hown9 hgrow9 hat9; have hb9 := hb08.grown hgrow9 hs8 (fun k hk => (ho8.lt k hk).1); have hs9 : w.heap.size + 1 ≤ w9.heap.size := (by have := hgrow9.size; omega); have ho9 := Own.of (b := List.replicate N 255) hown9 (by simp); clear hown9 hgrow9 hat9 ho8; obtain ⟨A9, c9, hv9, hB9⟩ := ho9.form; rw [List.length_append, List.length_replicate] at hv9; subst hv9)
    | fail)
  have hLl : (PH ++ List.replicate N 255).length = PH.length + N := by simp
  have HLl := Lib.hid hLl
  generalize PH ++ List.replicate N 255 = L at *
  have hLb : L.length ≤ 2000 := by omega
  clear hLl
  have hsm := rsumOf_any A9 c9 L w9.heap.size w9 (by omega) hB9
  unfold crc at hsm
  rw [HLl.out] at hsm
  have HTL := Lib.hid (two_lit (crcN L) (crcN_lt L))
  have hK := crcN_lt L
  generalize crcN L = K at *
  obtain ⟨BK, hBK⟩ : ∃ BK, BK = bigE K 2 ++ [165] := ⟨_, rfl⟩
  rw [← hBK] at HTL HPB
  have HBL : Hid (BK.length = 3) := Lib.hid (by rw [hBK]; simp [bigE])
  clear hBK
  have HSM := Lib.hid hsm
  clear hsm hB9
  refine HSM.out.mono ?_
  rintro e w' ⟨rfl, rfl⟩
  go_wp2_with (first
    | (at_builtin; refine wpList_app _ rfl (.tmp 114) (.tmp 120) 22 5 1 1 rfl elem8 (w.heap.size + 1) (.slice A9 (PH.length + N) c9) _ _ rfl (World.ownsRow.alloc ho9 _) (w9.heap.size + 1) _ 3 3 (BK.map bv) rfl (by rw [List.length_map, HBL.out]) (Cells.fresh w9 _ 5 _ _ (by rw [HTL.out])) (bv_one _) (by unfold maxLen; omega) (by omega) (by simp; omega) ?_; intro v10 w10 hown10 hgrow10 hat10)
    | fail)
  have ho10 := Own.of (b := BK) hown10 HBL.out.symm
  have hb10 := (hb9.alloc hs9 _).grown hgrow10 (by simp; omega) (fun k hk => (ho9.lt k hk).1)
  go_ret2
  refine ⟨v10, rfl, ?_, ((Below.refl _ _).alloc (Nat.le_refl _) _).trans (hb10.mono (by omega))⟩
  rw [HPB.out]
  exact ho10.lower (by omega)
end Go.Proofs.Ythcijelebjgfkaa
