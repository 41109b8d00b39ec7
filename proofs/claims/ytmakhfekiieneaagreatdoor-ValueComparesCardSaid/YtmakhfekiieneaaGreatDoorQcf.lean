/-
  Merged texts (Ve, Vf, Vg, Vh, Vi, Vj, Vk, Vl, Vn, Vo, Yi, H1, Ad, H2, H3).
-/
import Derived.Test.YtmakhfekiieneaaGreatDoorQce
open Go.RowKit
set_option maxRecDepth 100000
set_option maxHeartbeats 40000000
namespace Go.Proofs.YtmakhfekiieneaaGreatDoor
section
theorem Nx (s : ByteArray) (K N : Nat) (X P : Int) (m F : Nat) (D M : Nat) (g : ByteArray) (y1 y2 : Int) (E : Int) (w : World) (hs : s.size ≤ 281474976710656) (hK : K ≤ s.size) (hN : s.size - K = N)
  (Z1 : Hid (∀ k (h : k < s.size), k < K → (s[k]'h).toNat = 48)) (Z2 : Hid (∀ h : K < s.size, (s[K]'h).toNat ≠ 48))
  (hN0 : 0 < N) (p1 : wrap64 ((N : Int) + X) = P) (t0 : ((N : Int) == 0) = false) (t1 : decide (400 < P) = false) (t2 : decide (P < -400) = false) (t3 : decide (820 < (N : Int)) = true)
  (hg : s.extract K s.size = g) (hgN : g.size = N) (hN8 : 820 < N) (hrb : ((bl g).drop 810).any (· != 48) = true)
  (q0 : wrap64 (X + (N : Int)) = y1) (q1 : wrap64 (y1 - 810) = y2) (q2 : wrap64 (y2 - 1) = E) (_q3 : ¬ 9223372036854775807 < (g.extract 0 810).size + 1) 
  (C3 : Hid (∀ W, Cp 195 #[.string (g.extract 0 810 ++ ⟨#[49]⟩), .int .i64 10] W (NOk m W)))
  (C4 : Hid (∀ W, Cp 196 #[.int .i64 E] W (NRet D W)))
  (C5 : Hid (∀ W A1 n1 c1 A2 n2 c2, NV W A1 n1 c1 m → NV W A2 n2 c2 D → Cp 138 #[.slice A1 n1 c1, .slice A2 n2 c2] W (NRet M W)))
  (C6 : Hid (∀ W A1 n1 c1, NV W A1 n1 c1 M → Ct 139 #[.slice A1 n1 c1, .int .i64 0] (.float .f64 F) W))
  (u0 : decide (0 ≤ E) = true) :
  Ct 141 #[.string s, .int .i64 X] (.float .f64 F) w := by
 have h1 : (s.size : Int) ≤ 281474976710656 := by omega
 have HN := Lh hN
 have HK := Lh hK
 have HN0 := Lh hN0
 have HG := Lh hg
 have HGN := Lh hgN
 have HN8 := Lh hN8
 have HRB := Lh hrb
 clear hs hK hN hN0 hg hgN hN8 hrb
 go_enter Tryz.func141, Tryz.ntmps141
 go_wp2
 go_loopw [5] (fun i wr => ∃ k : Nat, i = .int .i64 k ∧ k ≤ K ∧ w = wr) (fun i _ => K - (intOf i).toNat)
 case atStart => exact ⟨0, rfl, Nat.zero_le _, rfl⟩
 case round =>
  obtain ⟨k, rfl, hk, rfl⟩ := hrel
  have hk2 := HK.out
  by_cases hlt : k < K
  ·have hks : k < s.size := by omega
   have e0 : ((s[k]'hks).toNat : Int) = 48 := by rw [Z1.out k hks hlt]; rfl
   have a2 : (k : Int) < (s.size : Int) := by omega
   have a1 : (0 : Int) ≤ (k : Int) := by omega
   clear hk2
   go_wp2
   exact ⟨⟨k + 1, by go_num, by omega, trivial⟩, by simp [intOf]; omega⟩
  ·obtain rfl : k = K := by omega
   have hz : k < s.size := by have := HN.out; have := HN0.out; omega
   obtain ⟨B, hB⟩ : ∃ B : Nat, (s[k]'hz).toNat = B := ⟨_, rfl⟩
   have hB48 := Z2.out hz
   rw [hB] at hB48
   have e0 : ((s[k]'hz).toNat : Int) = (B : Int) := by rw [hB]
   have e1 : ((B : Int) == 48) = false := by rw [beq_eq_false_iff_ne]; omega
   have a2 : (k : Int) < (s.size : Int) := by omega
   have a1 : (0 : Int) ≤ (k : Int) := by omega
   have a3 : (k : Int) ≤ (s.size : Int) := by omega
   have a4 : ((s.size - k : Nat) : Int) = (N : Int) := by rw [HN.out]
   clear hk2 hB hB48
   have hext : s.extract k s.size = g := HG.out
   have b4 : (g.size : Int) = (N : Int) := by rw [HGN.out]
   go_wp2
   clear a1 a2 a3 e0 e1 hext hz b4
   go_loopw [6, 7] (fun v i wr => ∃ j : Nat, i = .int .i64 (810 + (j : Int)) ∧ 810 + j ≤ N ∧ v = .bool ((((bl g).drop 810).take j).any (· != 48)) ∧ w = wr) (fun _ i _ => N - (intOf i).toNat)
   case atStart => exact ⟨0, rfl, by have := HN8.out; omega, rfl, rfl⟩
   case round =>
    obtain ⟨j, rfl, hj, rfl, rfl⟩ := hrel
    by_cases hjl : 810 + j < N
    ·have hgs : 810 + j < g.size := by rw [HGN.out]; exact hjl
     obtain ⟨D8, hD8⟩ : ∃ D8 : Nat, (g[810 + j]'hgs).toNat = D8 := ⟨_, rfl⟩
     have hstep : (((bl g).drop 810).take (j + 1)).any (· != 48) = ((((bl g).drop 810).take j).any (· != 48) || (D8 != 48)) := by
      rw [List.take_add_one, List.getElem?_drop, C0 g (810 + j) hgs, hD8, List.any_append]
      simp
     have b0 : ((810 + (j : Int)) : Int) < (N : Int) := by omega
     have b1 : (0 : Int) ≤ 810 + (j : Int) := by omega
     have b2 : (810 + (j : Int)).toNat = 810 + j := by omega
     have b3 : ((g[810 + j]'hgs).toNat : Int) = (D8 : Int) := by rw [hD8]
     have b4 : (g.size : Int) = (N : Int) := by rw [HGN.out]
     have b5 : 810 + (j : Int) < (g.size : Int) := by omega
     obtain ⟨r, hr⟩ : ∃ r, (((bl g).drop 810).take j).any (· != 48) = r := ⟨_, rfl⟩
     rw [hr] at hstep ⊢
     have HST := Lh hstep
     clear hstep hr hD8
     cases r
     ·cases h48 : (D8 != 48)
      ·have b6 : ((D8 : Int) != 48) = false := by rw [bne_eq_false_iff_eq]; have := bne_eq_false_iff_eq.1 h48; omega
       have HS2 := Lh (show (((bl g).drop 810).take (j + 1)).any (· != 48) = false from by rw [HST.out, h48]; rfl)
       clear h48
       go_wp2
       exact ⟨⟨j + 1, by go_num, by omega, by rw [HS2.out], trivial⟩, by simp [intOf]; omega⟩
      ·have b6 : ((D8 : Int) != 48) = true := by rw [bne_iff_ne]; have := bne_iff_ne.1 h48; omega
       have HS2 := Lh (show (((bl g).drop 810).take (j + 1)).any (· != 48) = true from by rw [HST.out, h48]; rfl)
       clear h48
       go_wp2
       exact ⟨⟨j + 1, by go_num, by omega, by rw [HS2.out], trivial⟩, by simp [intOf]; omega⟩
     ·have HS2 := Lh (show (((bl g).drop 810).take (j + 1)).any (· != 48) = true from by rw [HST.out]; rfl)
      go_wp2
      exact ⟨⟨j + 1, by go_num, by omega, by rw [HS2.out], trivial⟩, by simp [intOf]; omega⟩
    ·have hz2 : (((bl g).drop 810).take j).any (· != 48) = true := by
      rw [List.take_of_length_le (by rw [List.length_drop, By, HGN.out]; omega)]
      exact HRB.out
     rw [hz2]
     have b4 : (g.size : Int) = (N : Int) := by rw [HGN.out]
     have b0 : decide (810 + (j : Int) < (N : Int)) = false := decide_eq_false (by omega)
     have b5 : (810 : Int) ≤ (g.size : Int) := by have := HN8.out; omega
     clear hz2
     go_wp2_with fail
     refine (C3.out _).mono ?_
     rintro e w1 ⟨A1, n1, c1, rfl, g1, b1⟩
     have G1 := Lh g1
     have B1 := Lh b1
     clear g1 b1
     go_wp2_with fail
     refine (C4.out _).mono ?_
     rintro e w2 ⟨A2, n2, c2, rfl, g2, b2⟩
     have G2 := Lh g2
     have G1a := Lh (G1.out.step b2)
     have B2 := Lh (Aa B1.out b2)
     clear g2 b2
     go_wp2_with fail
     refine (C5.out _ _ _ _ _ _ _ G1a.out G2.out).mono ?_
     rintro e w3 ⟨A3, n3, c3, rfl, g3, b3⟩
     have G3 := Lh g3
     have B3 := Lh (Aa B2.out b3)
     clear g3 b3
     go_wp2_with fail
     refine Bm (C6.out _ _ _ _ G3.out) fun w4 b4 => ?_
     have B4 := Lh (Aa B3.out b4)
     clear b4
     go_wp2
     go_ret
     exact ⟨rfl, B4.out⟩
theorem Mk (s : ByteArray) (K N : Nat) (X P : Int) (m F : Nat) (D M Q bd ba : Nat) (x1 up x2 Y U : Int) (g : ByteArray) (y1 y2 : Int) (E : Int) (w : World) (hs : s.size ≤ 281474976710656) (hK : K ≤ s.size) (hN : s.size - K = N)
  (Z1 : Hid (∀ k (h : k < s.size), k < K → (s[k]'h).toNat = 48)) (Z2 : Hid (∀ h : K < s.size, (s[K]'h).toNat ≠ 48))
  (hN0 : 0 < N) (p1 : wrap64 ((N : Int) + X) = P) (t0 : ((N : Int) == 0) = false) (t1 : decide (400 < P) = false) (t2 : decide (P < -400) = false) (t3 : decide (820 < (N : Int)) = true)
  (hg : s.extract K s.size = g) (hgN : g.size = N) (hN8 : 820 < N) (hrb : ((bl g).drop 810).any (· != 48) = true)
  (q0 : wrap64 (X + (N : Int)) = y1) (q1 : wrap64 (y1 - 810) = y2) (q2 : wrap64 (y2 - 1) = E) (_q3 : ¬ 9223372036854775807 < (g.extract 0 810).size + 1) 
  (C3 : Hid (∀ W, Cp 195 #[.string (g.extract 0 810 ++ ⟨#[49]⟩), .int .i64 10] W (NOk m W)))
  (C4 : Hid (∀ W, Cp 196 #[.int .i64 (-E)] W (NRet D W)))
  (C5 : Hid (∀ W A1 n1 c1, NV W A1 n1 c1 D → Ct 193 #[.slice A1 n1 c1] (.int .i64 (bd : Nat)) W))
  (C6 : Hid (∀ W A1 n1 c1, NV W A1 n1 c1 m → Ct 193 #[.slice A1 n1 c1] (.int .i64 (ba : Nat)) W))
  (C7 : Hid (∀ W A1 n1 c1, NV W A1 n1 c1 m → Cp 157 #[.slice A1 n1 c1, .int .i64 U] W (NRet M W)))
  (C8 : Hid (∀ W A1 n1 c1 A2 n2 c2, NV W A1 n1 c1 M → NV W A2 n2 c2 D → Cp 155 #[.slice A1 n1 c1, .slice A2 n2 c2] W (W6 M D W)))
  (C9 : Hid (∀ W A1 n1 c1, NV W A1 n1 c1 (M / D) → Cp 157 #[.slice A1 n1 c1, .int .i64 1] W (NRet Q W)))
  (C11 : Hid (∀ W A1 n1 c1, NV W A1 n1 c1 Q → Ct 139 #[.slice A1 n1 c1, .int .i64 Y] (.float .f64 F) W))
  (hrem : M % D = 0)
  (u0 : decide (0 ≤ E) = false) (u1 : wrap64 (-E) = -E) (u2 : wrap64 ((bd : Int) - (ba : Int)) = x1) (u3 : wrap64 (x1 + 70) = up) (hu : (decide (up < 0) = false ∧ U = up ∧ wrap64 (-up) = x2 ∧ wrap64 (x2 - 1) = Y) ∨ (decide (up < 0) = true ∧ U = 0 ∧ Y = -1)) :
  Ct 141 #[.string s, .int .i64 X] (.float .f64 F) w := by
 have h1 : (s.size : Int) ≤ 281474976710656 := by omega
 have HN := Lh hN
 have HK := Lh hK
 have HN0 := Lh hN0
 have HREM := Lh hrem
 have HG := Lh hg
 have HGN := Lh hgN
 have HN8 := Lh hN8
 have HRB := Lh hrb
 have HUW := Lh hu
 clear hu hs hK hN hN0 hrem hg hgN hN8 hrb
 go_enter Tryz.func141, Tryz.ntmps141
 go_wp2
 go_loopw [5] (fun i wr => ∃ k : Nat, i = .int .i64 k ∧ k ≤ K ∧ w = wr) (fun i _ => K - (intOf i).toNat)
 case atStart => exact ⟨0, rfl, Nat.zero_le _, rfl⟩
 case round =>
  obtain ⟨k, rfl, hk, rfl⟩ := hrel
  have hk2 := HK.out
  by_cases hlt : k < K
  ·have hks : k < s.size := by omega
   have e0 : ((s[k]'hks).toNat : Int) = 48 := by rw [Z1.out k hks hlt]; rfl
   have a2 : (k : Int) < (s.size : Int) := by omega
   have a1 : (0 : Int) ≤ (k : Int) := by omega
   clear hk2
   go_wp2
   exact ⟨⟨k + 1, by go_num, by omega, trivial⟩, by simp [intOf]; omega⟩
  ·obtain rfl : k = K := by omega
   have hz : k < s.size := by have := HN.out; have := HN0.out; omega
   obtain ⟨B, hB⟩ : ∃ B : Nat, (s[k]'hz).toNat = B := ⟨_, rfl⟩
   have hB48 := Z2.out hz
   rw [hB] at hB48
   have e0 : ((s[k]'hz).toNat : Int) = (B : Int) := by rw [hB]
   have e1 : ((B : Int) == 48) = false := by rw [beq_eq_false_iff_ne]; omega
   have a2 : (k : Int) < (s.size : Int) := by omega
   have a1 : (0 : Int) ≤ (k : Int) := by omega
   have a3 : (k : Int) ≤ (s.size : Int) := by omega
   have a4 : ((s.size - k : Nat) : Int) = (N : Int) := by rw [HN.out]
   clear hk2 hB hB48
   have hext : s.extract k s.size = g := HG.out
   have b4 : (g.size : Int) = (N : Int) := by rw [HGN.out]
   go_wp2
   clear a1 a2 a3 e0 e1 hext hz b4
   go_loopw [6, 7] (fun v i wr => ∃ j : Nat, i = .int .i64 (810 + (j : Int)) ∧ 810 + j ≤ N ∧ v = .bool ((((bl g).drop 810).take j).any (· != 48)) ∧ w = wr) (fun _ i _ => N - (intOf i).toNat)
   case atStart => exact ⟨0, rfl, by have := HN8.out; omega, rfl, rfl⟩
   case round =>
    obtain ⟨j, rfl, hj, rfl, rfl⟩ := hrel
    by_cases hjl : 810 + j < N
    ·have hgs : 810 + j < g.size := by rw [HGN.out]; exact hjl
     obtain ⟨D8, hD8⟩ : ∃ D8 : Nat, (g[810 + j]'hgs).toNat = D8 := ⟨_, rfl⟩
     have hstep : (((bl g).drop 810).take (j + 1)).any (· != 48) = ((((bl g).drop 810).take j).any (· != 48) || (D8 != 48)) := by
      rw [List.take_add_one, List.getElem?_drop, C0 g (810 + j) hgs, hD8, List.any_append]
      simp
     have b0 : ((810 + (j : Int)) : Int) < (N : Int) := by omega
     have b1 : (0 : Int) ≤ 810 + (j : Int) := by omega
     have b2 : (810 + (j : Int)).toNat = 810 + j := by omega
     have b3 : ((g[810 + j]'hgs).toNat : Int) = (D8 : Int) := by rw [hD8]
     have b4 : (g.size : Int) = (N : Int) := by rw [HGN.out]
     have b5 : 810 + (j : Int) < (g.size : Int) := by omega
     obtain ⟨r, hr⟩ : ∃ r, (((bl g).drop 810).take j).any (· != 48) = r := ⟨_, rfl⟩
     rw [hr] at hstep ⊢
     have HST := Lh hstep
     clear hstep hr hD8
     cases r
     ·cases h48 : (D8 != 48)
      ·have b6 : ((D8 : Int) != 48) = false := by rw [bne_eq_false_iff_eq]; have := bne_eq_false_iff_eq.1 h48; omega
       have HS2 := Lh (show (((bl g).drop 810).take (j + 1)).any (· != 48) = false from by rw [HST.out, h48]; rfl)
       clear h48
       go_wp2
       exact ⟨⟨j + 1, by go_num, by omega, by rw [HS2.out], trivial⟩, by simp [intOf]; omega⟩
      ·have b6 : ((D8 : Int) != 48) = true := by rw [bne_iff_ne]; have := bne_iff_ne.1 h48; omega
       have HS2 := Lh (show (((bl g).drop 810).take (j + 1)).any (· != 48) = true from by rw [HST.out, h48]; rfl)
       clear h48
       go_wp2
       exact ⟨⟨j + 1, by go_num, by omega, by rw [HS2.out], trivial⟩, by simp [intOf]; omega⟩
     ·have HS2 := Lh (show (((bl g).drop 810).take (j + 1)).any (· != 48) = true from by rw [HST.out]; rfl)
      go_wp2
      exact ⟨⟨j + 1, by go_num, by omega, by rw [HS2.out], trivial⟩, by simp [intOf]; omega⟩
    ·have hz2 : (((bl g).drop 810).take j).any (· != 48) = true := by
      rw [List.take_of_length_le (by rw [List.length_drop, By, HGN.out]; omega)]
      exact HRB.out
     rw [hz2]
     have b4 : (g.size : Int) = (N : Int) := by rw [HGN.out]
     have b0 : decide (810 + (j : Int) < (N : Int)) = false := decide_eq_false (by omega)
     have b5 : (810 : Int) ≤ (g.size : Int) := by have := HN8.out; omega
     clear hz2
     rcases HUW.out with ⟨u4, rfl, u5, u6⟩ | ⟨u4, rfl, rfl⟩
     all_goals
      go_wp2_with fail
      refine (C3.out _).mono ?_
      rintro e w1 ⟨A1, n1, c1, rfl, g1, b1⟩
      have G1 := Lh g1
      have B1 := Lh b1
      clear g1 b1
      go_wp2_with fail
      refine (C4.out _).mono ?_
      rintro e w2 ⟨A2, n2, c2, rfl, g2, b2⟩
      have G2 := Lh g2
      have G1a := Lh (G1.out.step b2)
      have B2 := Lh (Aa B1.out b2)
      clear g2 b2
      go_wp2_with fail
      refine Bm (C5.out _ _ _ _ G2.out) fun w3 b3 => ?_
      have G2a := Lh (G2.out.step b3)
      have G1b := Lh (G1a.out.step b3)
      have B3 := Lh (Aa B2.out b3)
      clear b3
      go_wp2_with fail
      refine Bm (C6.out _ _ _ _ G1b.out) fun w4 b4 => ?_
      have G2b := Lh (G2a.out.step b4)
      have G1c := Lh (G1b.out.step b4)
      have B4 := Lh (Aa B3.out b4)
      clear b4
      go_wp2_with fail
      refine (C7.out _ _ _ _ G1c.out).mono ?_
      rintro e w5 ⟨A5, n5, c5, rfl, g5, b5⟩
      have G5 := Lh g5
      have G25 := Lh (G2b.out.step b5)
      have B5 := Lh (Aa B4.out b5)
      clear g5 b5
      go_wp2_with fail
      refine (C8.out _ _ _ _ _ _ _ G5.out G25.out).mono ?_
      rintro e w6 ⟨A6, n6, c6, A7, n7, c7, rfl, g6, g7, b6⟩
      have G6 := Lh g6
      have B6 := Lh (Aa B5.out b6)
      obtain rfl : n7 = 0 := by
       have h1 := g7.len
       rw [HREM.out] at h1
       exact h1.symm
      clear g6 g7 b6
      go_wp2_with fail
      refine (C9.out _ _ _ _ G6.out).mono ?_
      rintro e w7 ⟨A8, n8, c8, rfl, g8, b7⟩
      have G8 := Lh g8
      have B7 := Lh (Aa B6.out b7)
      clear g8 b7
      go_wp2_with fail
      refine Bm (C11.out _ _ _ _ G8.out) fun w9 b9 => ?_
      have B9 := Lh (Aa B7.out b9)
      clear b9
      go_wp2
      go_ret
      exact ⟨rfl, B9.out⟩
theorem Md (s : ByteArray) (K N : Nat) (X P : Int) (m F : Nat) (D M Q Q2 bd ba : Nat) (x1 up x2 Y U : Int) (g : ByteArray) (y1 y2 : Int) (E : Int) (w : World) (hs : s.size ≤ 281474976710656) (hK : K ≤ s.size) (hN : s.size - K = N)
  (Z1 : Hid (∀ k (h : k < s.size), k < K → (s[k]'h).toNat = 48)) (Z2 : Hid (∀ h : K < s.size, (s[K]'h).toNat ≠ 48))
  (hN0 : 0 < N) (p1 : wrap64 ((N : Int) + X) = P) (t0 : ((N : Int) == 0) = false) (t1 : decide (400 < P) = false) (t2 : decide (P < -400) = false) (t3 : decide (820 < (N : Int)) = true)
  (hg : s.extract K s.size = g) (hgN : g.size = N) (hN8 : 820 < N) (hrb : ((bl g).drop 810).any (· != 48) = true)
  (q0 : wrap64 (X + (N : Int)) = y1) (q1 : wrap64 (y1 - 810) = y2) (q2 : wrap64 (y2 - 1) = E) (_q3 : ¬ 9223372036854775807 < (g.extract 0 810).size + 1) 
  (C3 : Hid (∀ W, Cp 195 #[.string (g.extract 0 810 ++ ⟨#[49]⟩), .int .i64 10] W (NOk m W)))
  (C4 : Hid (∀ W, Cp 196 #[.int .i64 (-E)] W (NRet D W)))
  (C5 : Hid (∀ W A1 n1 c1, NV W A1 n1 c1 D → Ct 193 #[.slice A1 n1 c1] (.int .i64 (bd : Nat)) W))
  (C6 : Hid (∀ W A1 n1 c1, NV W A1 n1 c1 m → Ct 193 #[.slice A1 n1 c1] (.int .i64 (ba : Nat)) W))
  (C7 : Hid (∀ W A1 n1 c1, NV W A1 n1 c1 m → Cp 157 #[.slice A1 n1 c1, .int .i64 U] W (NRet M W)))
  (C8 : Hid (∀ W A1 n1 c1 A2 n2 c2, NV W A1 n1 c1 M → NV W A2 n2 c2 D → Cp 155 #[.slice A1 n1 c1, .slice A2 n2 c2] W (W6 M D W)))
  (C9 : Hid (∀ W A1 n1 c1, NV W A1 n1 c1 (M / D) → Cp 157 #[.slice A1 n1 c1, .int .i64 1] W (NRet Q W)))
  (C10 : Hid (∀ W A1 n1 c1 A2 n2 c2, NV W A1 n1 c1 Q → NV W A2 n2 c2 1 → Cp 137 #[.slice A1 n1 c1, .slice A2 n2 c2] W (NRet Q2 W)))
  (C11 : Hid (∀ W A1 n1 c1, NV W A1 n1 c1 Q2 → Ct 139 #[.slice A1 n1 c1, .int .i64 Y] (.float .f64 F) W))
  (hrem : M % D ≠ 0)
  (u0 : decide (0 ≤ E) = false) (u1 : wrap64 (-E) = -E) (u2 : wrap64 ((bd : Int) - (ba : Int)) = x1) (u3 : wrap64 (x1 + 70) = up) (hu : (decide (up < 0) = false ∧ U = up ∧ wrap64 (-up) = x2 ∧ wrap64 (x2 - 1) = Y) ∨ (decide (up < 0) = true ∧ U = 0 ∧ Y = -1)) :
  Ct 141 #[.string s, .int .i64 X] (.float .f64 F) w := by
 have h1 : (s.size : Int) ≤ 281474976710656 := by omega
 have HN := Lh hN
 have HK := Lh hK
 have HN0 := Lh hN0
 have HREM := Lh hrem
 have HG := Lh hg
 have HGN := Lh hgN
 have HN8 := Lh hN8
 have HRB := Lh hrb
 have HUW := Lh hu
 clear hu hs hK hN hN0 hrem hg hgN hN8 hrb
 go_enter Tryz.func141, Tryz.ntmps141
 go_wp2
 go_loopw [5] (fun i wr => ∃ k : Nat, i = .int .i64 k ∧ k ≤ K ∧ w = wr) (fun i _ => K - (intOf i).toNat)
 case atStart => exact ⟨0, rfl, Nat.zero_le _, rfl⟩
 case round =>
  obtain ⟨k, rfl, hk, rfl⟩ := hrel
  have hk2 := HK.out
  by_cases hlt : k < K
  ·have hks : k < s.size := by omega
   have e0 : ((s[k]'hks).toNat : Int) = 48 := by rw [Z1.out k hks hlt]; rfl
   have a2 : (k : Int) < (s.size : Int) := by omega
   have a1 : (0 : Int) ≤ (k : Int) := by omega
   clear hk2
   go_wp2
   exact ⟨⟨k + 1, by go_num, by omega, trivial⟩, by simp [intOf]; omega⟩
  ·obtain rfl : k = K := by omega
   have hz : k < s.size := by have := HN.out; have := HN0.out; omega
   obtain ⟨B, hB⟩ : ∃ B : Nat, (s[k]'hz).toNat = B := ⟨_, rfl⟩
   have hB48 := Z2.out hz
   rw [hB] at hB48
   have e0 : ((s[k]'hz).toNat : Int) = (B : Int) := by rw [hB]
   have e1 : ((B : Int) == 48) = false := by rw [beq_eq_false_iff_ne]; omega
   have a2 : (k : Int) < (s.size : Int) := by omega
   have a1 : (0 : Int) ≤ (k : Int) := by omega
   have a3 : (k : Int) ≤ (s.size : Int) := by omega
   have a4 : ((s.size - k : Nat) : Int) = (N : Int) := by rw [HN.out]
   clear hk2 hB hB48
   have hext : s.extract k s.size = g := HG.out
   have b4 : (g.size : Int) = (N : Int) := by rw [HGN.out]
   go_wp2
   clear a1 a2 a3 e0 e1 hext hz b4
   go_loopw [6, 7] (fun v i wr => ∃ j : Nat, i = .int .i64 (810 + (j : Int)) ∧ 810 + j ≤ N ∧ v = .bool ((((bl g).drop 810).take j).any (· != 48)) ∧ w = wr) (fun _ i _ => N - (intOf i).toNat)
   case atStart => exact ⟨0, rfl, by have := HN8.out; omega, rfl, rfl⟩
   case round =>
    obtain ⟨j, rfl, hj, rfl, rfl⟩ := hrel
    by_cases hjl : 810 + j < N
    ·have hgs : 810 + j < g.size := by rw [HGN.out]; exact hjl
     obtain ⟨D8, hD8⟩ : ∃ D8 : Nat, (g[810 + j]'hgs).toNat = D8 := ⟨_, rfl⟩
     have hstep : (((bl g).drop 810).take (j + 1)).any (· != 48) = ((((bl g).drop 810).take j).any (· != 48) || (D8 != 48)) := by
      rw [List.take_add_one, List.getElem?_drop, C0 g (810 + j) hgs, hD8, List.any_append]
      simp
     have b0 : ((810 + (j : Int)) : Int) < (N : Int) := by omega
     have b1 : (0 : Int) ≤ 810 + (j : Int) := by omega
     have b2 : (810 + (j : Int)).toNat = 810 + j := by omega
     have b3 : ((g[810 + j]'hgs).toNat : Int) = (D8 : Int) := by rw [hD8]
     have b4 : (g.size : Int) = (N : Int) := by rw [HGN.out]
     have b5 : 810 + (j : Int) < (g.size : Int) := by omega
     obtain ⟨r, hr⟩ : ∃ r, (((bl g).drop 810).take j).any (· != 48) = r := ⟨_, rfl⟩
     rw [hr] at hstep ⊢
     have HST := Lh hstep
     clear hstep hr hD8
     cases r
     ·cases h48 : (D8 != 48)
      ·have b6 : ((D8 : Int) != 48) = false := by rw [bne_eq_false_iff_eq]; have := bne_eq_false_iff_eq.1 h48; omega
       have HS2 := Lh (show (((bl g).drop 810).take (j + 1)).any (· != 48) = false from by rw [HST.out, h48]; rfl)
       clear h48
       go_wp2
       exact ⟨⟨j + 1, by go_num, by omega, by rw [HS2.out], trivial⟩, by simp [intOf]; omega⟩
      ·have b6 : ((D8 : Int) != 48) = true := by rw [bne_iff_ne]; have := bne_iff_ne.1 h48; omega
       have HS2 := Lh (show (((bl g).drop 810).take (j + 1)).any (· != 48) = true from by rw [HST.out, h48]; rfl)
       clear h48
       go_wp2
       exact ⟨⟨j + 1, by go_num, by omega, by rw [HS2.out], trivial⟩, by simp [intOf]; omega⟩
     ·have HS2 := Lh (show (((bl g).drop 810).take (j + 1)).any (· != 48) = true from by rw [HST.out]; rfl)
      go_wp2
      exact ⟨⟨j + 1, by go_num, by omega, by rw [HS2.out], trivial⟩, by simp [intOf]; omega⟩
    ·have hz2 : (((bl g).drop 810).take j).any (· != 48) = true := by
      rw [List.take_of_length_le (by rw [List.length_drop, By, HGN.out]; omega)]
      exact HRB.out
     rw [hz2]
     have b4 : (g.size : Int) = (N : Int) := by rw [HGN.out]
     have b0 : decide (810 + (j : Int) < (N : Int)) = false := decide_eq_false (by omega)
     have b5 : (810 : Int) ≤ (g.size : Int) := by have := HN8.out; omega
     clear hz2
     rcases HUW.out with ⟨u4, rfl, u5, u6⟩ | ⟨u4, rfl, rfl⟩
     all_goals
      go_wp2_with fail
      refine (C3.out _).mono ?_
      rintro e w1 ⟨A1, n1, c1, rfl, g1, b1⟩
      have G1 := Lh g1
      have B1 := Lh b1
      clear g1 b1
      go_wp2_with fail
      refine (C4.out _).mono ?_
      rintro e w2 ⟨A2, n2, c2, rfl, g2, b2⟩
      have G2 := Lh g2
      have G1a := Lh (G1.out.step b2)
      have B2 := Lh (Aa B1.out b2)
      clear g2 b2
      go_wp2_with fail
      refine Bm (C5.out _ _ _ _ G2.out) fun w3 b3 => ?_
      have G2a := Lh (G2.out.step b3)
      have G1b := Lh (G1a.out.step b3)
      have B3 := Lh (Aa B2.out b3)
      clear b3
      go_wp2_with fail
      refine Bm (C6.out _ _ _ _ G1b.out) fun w4 b4 => ?_
      have G2b := Lh (G2a.out.step b4)
      have G1c := Lh (G1b.out.step b4)
      have B4 := Lh (Aa B3.out b4)
      clear b4
      go_wp2_with fail
      refine (C7.out _ _ _ _ G1c.out).mono ?_
      rintro e w5 ⟨A5, n5, c5, rfl, g5, b5⟩
      have G5 := Lh g5
      have G25 := Lh (G2b.out.step b5)
      have B5 := Lh (Aa B4.out b5)
      clear g5 b5
      go_wp2_with fail
      refine (C8.out _ _ _ _ _ _ _ G5.out G25.out).mono ?_
      rintro e w6 ⟨A6, n6, c6, A7, n7, c7, rfl, g6, g7, b6⟩
      have G6 := Lh g6
      have B6 := Lh (Aa B5.out b6)
      have hn7 : (0 : Int) < (n7 : Int) := by
       have h1 := g7.len
       have h2 : (wds (M % D)) ≠ [] := fun e => HREM.out (by have h3 := Ae (M % D); rw [e] at h3; exact h3.symm)
       have := List.length_pos_iff.2 h2
       omega
      clear g6 g7 b6
      go_wp2_with fail
      refine (C9.out _ _ _ _ G6.out).mono ?_
      rintro e w7 ⟨A8, n8, c8, rfl, g8, b7⟩
      have G8 := Lh g8
      have B7 := Lh (Aa B6.out b7)
      clear g8 b7
      have bl := Lh (show Below w7.heap.size w7 (w7.alloc (.cells #[.int .u32 1] 129)) from (Below.refl _ _).alloc (Nat.le_refl _) _)
      have C10' := Lh (C10.out _ _ _ _ _ _ _ (G8.out.step bl.out) (NV.lit w7 1 (by omega) (by omega)))
      go_wp2_with fail
      refine C10'.out.mono ?_
      rintro e w8 ⟨A9, n9, c9, rfl, g9, b8⟩
      have G9 := Lh g9
      have B8 := Lh (Aa (Aa B7.out bl.out) b8)
      clear g9 b8
      go_wp2_with fail
      refine Bm (C11.out _ _ _ _ G9.out) fun w9 b9 => ?_
      have B9 := Lh (Aa B8.out b9)
      clear b9
      go_wp2
      go_ret
      exact ⟨rfl, B9.out⟩
end
section
theorem Kt (m k : Nat) (h0 : 0 < m) (hb : bln m ≤ 3300) (hk : k ≤ 1300) : ∃ (D M bd ba : Nat) (U : Int), U = max 0 ((bd : Int) - ba + 70) ∧ bd ≤ 6000 ∧ ba ≤ 6000 ∧
  Hid (∀ W, Cp 196 #[.int .i64 (k : Nat)] W (NRet D W)) ∧
  Hid (∀ W A1 n1 c1, NV W A1 n1 c1 D → Ct 193 #[.slice A1 n1 c1] (.int .i64 (bd : Nat)) W) ∧
  Hid (∀ W A1 n1 c1, NV W A1 n1 c1 m → Ct 193 #[.slice A1 n1 c1] (.int .i64 (ba : Nat)) W) ∧
  Hid (∀ W A1 n1 c1, NV W A1 n1 c1 m → Cp 157 #[.slice A1 n1 c1, .int .i64 U] W (NRet M W)) ∧
  Hid (∀ W A1 n1 c1 A2 n2 c2, NV W A1 n1 c1 M → NV W A2 n2 c2 D → Cp 155 #[.slice A1 n1 c1, .slice A2 n2 c2] W (W6 M D W)) ∧
  Hid (∀ W A1 n1 c1, NV W A1 n1 c1 (M / D) → Cp 157 #[.slice A1 n1 c1, .int .i64 1] W (NRet (M / D * 2) W)) ∧
  Hid (∀ W A1 n1 c1 A2 n2 c2, NV W A1 n1 c1 (M / D * 2) → NV W A2 n2 c2 1 → Cp 137 #[.slice A1 n1 c1, .slice A2 n2 c2] W (NRet (M / D * 2 + 1) W)) ∧
  (M % D = 0 → Hid (∀ W A1 n1 c1, NV W A1 n1 c1 (M / D * 2) → Ct 139 #[.slice A1 n1 c1, .int .i64 (-U - 1)] (.float .f64 (Bp m (-(k : Int)))) W)) ∧
  (M % D ≠ 0 → Hid (∀ W A1 n1 c1, NV W A1 n1 c1 (M / D * 2 + 1) → Ct 139 #[.slice A1 n1 c1, .int .i64 (-U - 1)] (.float .f64 (Bp m (-(k : Int)))) W)) := by
 obtain ⟨u1, u2, u3⟩ := Be h0
 obtain ⟨v1, v2, v3⟩ := Be (Au k)
 have ft := He k
 obtain ⟨D, hD⟩ : ∃ D, 10 ^ k = D := ⟨_, rfl⟩
 rw [hD] at v1 v2 v3 ft
 obtain ⟨bd, hbd⟩ : ∃ bd, bln D = bd := ⟨_, rfl⟩
 obtain ⟨ba, hba⟩ : ∃ ba, bln m = ba := ⟨_, rfl⟩
 have hD0 : 0 < D := by rw [← hD]; exact Au k
 obtain ⟨up, hup⟩ : ∃ up : Nat, (up : Int) = max 0 ((bd : Int) - ba + 70) := ⟨(max 0 ((bd : Int) - ba + 70)).toNat, by omega⟩
 have g1 := Fq m (2 ^ up)
 have g2 := Jv up
 obtain ⟨M, hM⟩ : ∃ M, m * 2 ^ up = M := ⟨_, rfl⟩
 have hM0 : 0 < M := by rw [← hM]; exact Nat.mul_pos h0 (Az _)
 rw [hM] at g1
 rw [hba] at hb u1 u2 u3 g1
 rw [hbd] at v1 v2 v3 ft
 have hup2 : up ≤ 5400 := by omega
 obtain ⟨p, rfl⟩ : ∃ p, ba = p + 1 := ⟨ba - 1, by omega⟩
 obtain ⟨r, rfl⟩ : ∃ r, bd = r + 1 := ⟨bd - 1, by omega⟩
 rw [Nat.add_sub_cancel] at u1 v1
 have hbig := (K8 (x := up) (y := 0) u1 u2 v1 v2 60).2 (by omega)
 rw [Nat.pow_zero, Nat.mul_one, hM] at hbig
 have hqM : M / D ≤ M := Nat.div_le_self _ _
 have l1 := Cx hqM
 have l2 := Cx (show M / D * 2 ≤ M * 4 by omega)
 have l3 := Cx (show M / D * 2 + 1 ≤ M * 4 by omega)
 have l4 := Fq M 4
 rw [show bln 4 = 3 by decide] at l4
 obtain ⟨q, hq⟩ : ∃ q, M / D = q := ⟨_, rfl⟩
 obtain ⟨t, ht⟩ : ∃ t, M % D = t := ⟨_, rfl⟩
 have hNd : M = q * D + t := by rw [← hq, ← ht, Nat.mul_comm]; exact (Nat.div_add_mod M D).symm
 have htd : t < D := by rw [← ht]; exact Nat.mod_lt _ hD0
 obtain ⟨a, ha⟩ : ∃ a, 1074 - up = a := ⟨_, rfl⟩
 obtain ⟨b, hb2⟩ : ∃ b, up - 1074 = b := ⟨_, rfl⟩
 have key := fun s hs => Aej (m := m) (N := M) (q := q) (t := t) (s := s) (k := k) (up := up) (a := a) (b := b) hM.symm (by rw [hD]; exact hNd) (by rw [hD]; exact htd) hs (by rw [← hq]; exact hbig) ha.symm hb2.symm
 rw [hq] at l1 l2 l3
 refine ⟨D, M, r + 1, p + 1, (up : Int), hup, by omega, by omega, Lh (fun W => ?_), Lh (fun W A1 n1 c1 h => ?_), Lh (fun W A1 n1 c1 h => ?_), Lh (fun W A1 n1 c1 h => ?_), Lh (fun W A1 n1 c1 A2 n2 c2 h g => Aiz h g (by omega) (by omega) hD0), Lh (fun W A1 n1 c1 h => ?_), Lh (fun W A1 n1 c1 A2 n2 c2 h g => Am2 h g (by rw [hq]; omega) (by decide)), ?_, ?_⟩
 ·rw [← hD]; exact Xa k W (by omega)
 ·rw [← hbd]; exact Aim h (by omega)
 ·rw [← hba]; exact Aim h (by omega)
 ·rw [← hM]; exact Aou h up (by omega) (by omega)
 ·exact Aou h 1 (by rw [hq]; omega) (by omega)
 ·rw [hq, ht]
  intro h1
  have k1 := key 0 (by rw [if_pos h1])
  rw [Nat.add_zero, Nat.mul_comm 2 q] at k1
  exact Lh (fun W A1 n1 c1 h => by rw [← k1]; exact Sy h (by omega) a (b + 1) (-(up : Int) - 1) (by omega) (by omega) (by omega))
 ·rw [hq, ht]
  intro h1
  have k1 := key 1 (by rw [if_neg h1])
  rw [Nat.mul_comm 2 q] at k1
  exact Lh (fun W A1 n1 c1 h => by rw [← k1]; exact Sy h (by omega) a (b + 1) (-(up : Int) - 1) (by omega) (by omega) (by omega))
theorem Lf (m k : Nat) (hb : bln m ≤ 3300) (hk : k ≤ 1300) : ∃ (D M : Nat),
  Hid (∀ W, Cp 196 #[.int .i64 (k : Nat)] W (NRet D W)) ∧
  Hid (∀ W A1 n1 c1 A2 n2 c2, NV W A1 n1 c1 m → NV W A2 n2 c2 D → Cp 138 #[.slice A1 n1 c1, .slice A2 n2 c2] W (NRet M W)) ∧
  Hid (∀ W A1 n1 c1, NV W A1 n1 c1 M → Ct 139 #[.slice A1 n1 c1, .int .i64 0] (.float .f64 (Bp m (k : Int))) W) := by
 have ft := He k
 have g1 := Fq m (10 ^ k)
 refine ⟨10 ^ k, m * 10 ^ k, Lh (fun W => Xa k W (by omega)), Lh (fun W A1 n1 c1 A2 n2 c2 h g => Acf h g (by omega) (by omega)), Lh (fun W A1 n1 c1 h => ?_)⟩
 obtain ⟨K, hK, hd⟩ := Fj
 have := Sy h (by omega) K 0 0 (by omega) (by omega) (by omega)
 rw [hd, show ((k : Int)).toNat = k by omega, show (-(k : Int)).toNat = 0 by omega]
 exact this
theorem Y7 (s : ByteArray) (K N : Nat) (X P : Int) (m : Nat) (w : World) (hs : s.size ≤ 281474976710656) (hK : K ≤ s.size) (hN : s.size - K = N)
  (Z1 : Hid (∀ k (h : k < s.size), k < K → (s[k]'h).toNat = 48)) (Z2 : Hid (∀ h : K < s.size, (s[K]'h).toNat ≠ 48))
  (hN0 : 0 < N) (p1 : wrap64 ((N : Int) + X) = P) (t0 : ((N : Int) == 0) = false) (t1 : decide (400 < P) = false) (t2 : decide (P < -400) = false) (t3 : decide (820 < (N : Int)) = false)
  (C3 : Hid (∀ W, Cp 195 #[.string (s.extract K s.size), .int .i64 10] W (NOk m W))) (h0 : 0 < m) (hb : bln m ≤ 3300) (hE1 : -1300 ≤ X) (hE2 : X ≤ 1300) :
  Ct 141 #[.string s, .int .i64 X] (.float .f64 (Bp m X)) w := by
 by_cases hp : 0 ≤ X
 ·obtain ⟨k, rfl⟩ : ∃ k : Nat, X = k := ⟨X.toNat, by omega⟩
  obtain ⟨D, M, C4, C5, C6⟩ := Lf m k hb (by omega)
  exact On (w := w) (hs := hs) (hK := hK) (hN := hN) (Z1 := Z1) (Z2 := Z2) (C3 := C3) (C4 := C4) (C5 := C5) (C6 := C6) (u0 := decide_eq_true hp) (hN0 := hN0) (p1 := p1) (t0 := t0) (t1 := t1) (t2 := t2) (t3 := t3)
 ·obtain ⟨k, rfl⟩ : ∃ k : Nat, X = -(k : Int) := ⟨(-X).toNat, by omega⟩
  obtain ⟨D, M, bd, ba, U, hU, e1, e2, C4, C5, C6, C7, C8, C9, C10, C11, C12⟩ := Kt m k h0 hb (by omega)
  rw [show (k : Int) = -(-(k : Int)) by omega] at C4
  have u0 : decide (0 ≤ -(k : Int)) = false := decide_eq_false hp
  have u1 : wrap64 (- -(k : Int)) = - -(k : Int) := by unfold wrap64; omega
  have u2 : wrap64 ((bd : Int) - (ba : Int)) = (bd : Int) - ba := by unfold wrap64; omega
  have u3 : wrap64 ((bd : Int) - ba + 70) = (bd : Int) - ba + 70 := by unfold wrap64; omega
  have hu : (decide ((bd : Int) - ba + 70 < 0) = false ∧ U = (bd : Int) - ba + 70 ∧ wrap64 (-((bd : Int) - ba + 70)) = -((bd : Int) - ba + 70) ∧ wrap64 (-((bd : Int) - ba + 70) - 1) = -U - 1) ∨ (decide ((bd : Int) - ba + 70 < 0) = true ∧ U = 0 ∧ -U - 1 = -1) := by
   by_cases hU0 : (bd : Int) - ba + 70 < 0
   ·exact .inr ⟨decide_eq_true hU0, by omega, by omega⟩
   ·exact .inl ⟨decide_eq_false hU0, by omega, by unfold wrap64; omega, by unfold wrap64; omega⟩
  by_cases hr : M % D = 0
  ·exact L8 (w := w) (hs := hs) (hK := hK) (hN := hN) (Z1 := Z1) (Z2 := Z2) (C3 := C3) (C4 := C4) (C5 := C5) (C6 := C6) (C7 := C7) (C8 := C8) (C9 := C9) (C11 := C11 hr) (hrem := hr) (u0 := u0) (u1 := u1) (u2 := u2) (u3 := u3) (hu := hu) (hN0 := hN0) (p1 := p1) (t0 := t0) (t1 := t1) (t2 := t2) (t3 := t3)
  ·exact Mj (w := w) (hs := hs) (hK := hK) (hN := hN) (Z1 := Z1) (Z2 := Z2) (C3 := C3) (C4 := C4) (C5 := C5) (C6 := C6) (C7 := C7) (C8 := C8) (C9 := C9) (C10 := C10) (C11 := C12 hr) (hrem := hr) (u0 := u0) (u1 := u1) (u2 := u2) (u3 := u3) (hu := hu) (hN0 := hN0) (p1 := p1) (t0 := t0) (t1 := t1) (t2 := t2) (t3 := t3)
theorem Zr (s : ByteArray) (K N : Nat) (X P : Int) (m : Nat) (g : ByteArray) (y1 : Int) (E : Int) (w : World) (hs : s.size ≤ 281474976710656) (hK : K ≤ s.size) (hN : s.size - K = N)
  (Z1 : Hid (∀ k (h : k < s.size), k < K → (s[k]'h).toNat = 48)) (Z2 : Hid (∀ h : K < s.size, (s[K]'h).toNat ≠ 48))
  (hN0 : 0 < N) (p1 : wrap64 ((N : Int) + X) = P) (t0 : ((N : Int) == 0) = false) (t1 : decide (400 < P) = false) (t2 : decide (P < -400) = false) (t3 : decide (820 < (N : Int)) = true)
  (hg : s.extract K s.size = g) (hgN : g.size = N) (hN8 : 820 < N) (hrb : ((bl g).drop 810).any (· != 48) = false)
  (q0 : wrap64 (X + (N : Int)) = y1) (q1 : wrap64 (y1 - 810) = E)
  (C3 : Hid (∀ W, Cp 195 #[.string (g.extract 0 810), .int .i64 10] W (NOk m W))) (h0 : 0 < m) (hb : bln m ≤ 3300) (hE1 : -1300 ≤ E) (hE2 : E ≤ 1300) :
  Ct 141 #[.string s, .int .i64 X] (.float .f64 (Bp m E)) w := by
 by_cases hp : 0 ≤ E
 ·obtain ⟨k, rfl⟩ : ∃ k : Nat, E = k := ⟨E.toNat, by omega⟩
  obtain ⟨D, M, C4, C5, C6⟩ := Lf m k hb (by omega)
  exact Ox (w := w) (hs := hs) (hK := hK) (hN := hN) (Z1 := Z1) (Z2 := Z2) (C3 := C3) (C4 := C4) (C5 := C5) (C6 := C6) (u0 := decide_eq_true hp) (hN0 := hN0) (p1 := p1) (t0 := t0) (t1 := t1) (t2 := t2) (t3 := t3) (hg := hg) (hgN := hgN) (hN8 := hN8) (hrb := hrb) (q0 := q0) (q1 := q1)
 ·obtain ⟨k, rfl⟩ : ∃ k : Nat, E = -(k : Int) := ⟨(-E).toNat, by omega⟩
  obtain ⟨D, M, bd, ba, U, hU, e1, e2, C4, C5, C6, C7, C8, C9, C10, C11, C12⟩ := Kt m k h0 hb (by omega)
  rw [show (k : Int) = -(-(k : Int)) by omega] at C4
  have u0 : decide (0 ≤ -(k : Int)) = false := decide_eq_false hp
  have u1 : wrap64 (- -(k : Int)) = - -(k : Int) := by unfold wrap64; omega
  have u2 : wrap64 ((bd : Int) - (ba : Int)) = (bd : Int) - ba := by unfold wrap64; omega
  have u3 : wrap64 ((bd : Int) - ba + 70) = (bd : Int) - ba + 70 := by unfold wrap64; omega
  have hu : (decide ((bd : Int) - ba + 70 < 0) = false ∧ U = (bd : Int) - ba + 70 ∧ wrap64 (-((bd : Int) - ba + 70)) = -((bd : Int) - ba + 70) ∧ wrap64 (-((bd : Int) - ba + 70) - 1) = -U - 1) ∨ (decide ((bd : Int) - ba + 70 < 0) = true ∧ U = 0 ∧ -U - 1 = -1) := by
   by_cases hU0 : (bd : Int) - ba + 70 < 0
   ·exact .inr ⟨decide_eq_true hU0, by omega, by omega⟩
   ·exact .inl ⟨decide_eq_false hU0, by omega, by unfold wrap64; omega, by unfold wrap64; omega⟩
  by_cases hr : M % D = 0
  ·exact Mr (w := w) (hs := hs) (hK := hK) (hN := hN) (Z1 := Z1) (Z2 := Z2) (C3 := C3) (C4 := C4) (C5 := C5) (C6 := C6) (C7 := C7) (C8 := C8) (C9 := C9) (C11 := C11 hr) (hrem := hr) (u0 := u0) (u1 := u1) (u2 := u2) (u3 := u3) (hu := hu) (hN0 := hN0) (p1 := p1) (t0 := t0) (t1 := t1) (t2 := t2) (t3 := t3) (hg := hg) (hgN := hgN) (hN8 := hN8) (hrb := hrb) (q0 := q0) (q1 := q1)
  ·exact L7 (w := w) (hs := hs) (hK := hK) (hN := hN) (Z1 := Z1) (Z2 := Z2) (C3 := C3) (C4 := C4) (C5 := C5) (C6 := C6) (C7 := C7) (C8 := C8) (C9 := C9) (C10 := C10) (C11 := C12 hr) (hrem := hr) (u0 := u0) (u1 := u1) (u2 := u2) (u3 := u3) (hu := hu) (hN0 := hN0) (p1 := p1) (t0 := t0) (t1 := t1) (t2 := t2) (t3 := t3) (hg := hg) (hgN := hgN) (hN8 := hN8) (hrb := hrb) (q0 := q0) (q1 := q1)
theorem Yv (s : ByteArray) (K N : Nat) (X P : Int) (m : Nat) (g : ByteArray) (y1 y2 : Int) (E : Int) (w : World) (hs : s.size ≤ 281474976710656) (hK : K ≤ s.size) (hN : s.size - K = N)
  (Z1 : Hid (∀ k (h : k < s.size), k < K → (s[k]'h).toNat = 48)) (Z2 : Hid (∀ h : K < s.size, (s[K]'h).toNat ≠ 48))
  (hN0 : 0 < N) (p1 : wrap64 ((N : Int) + X) = P) (t0 : ((N : Int) == 0) = false) (t1 : decide (400 < P) = false) (t2 : decide (P < -400) = false) (t3 : decide (820 < (N : Int)) = true)
  (hg : s.extract K s.size = g) (hgN : g.size = N) (hN8 : 820 < N) (hrb : ((bl g).drop 810).any (· != 48) = true)
  (q0 : wrap64 (X + (N : Int)) = y1) (q1 : wrap64 (y1 - 810) = y2) (q2 : wrap64 (y2 - 1) = E) (q3 : ¬ 9223372036854775807 < (g.extract 0 810).size + 1)
  (C3 : Hid (∀ W, Cp 195 #[.string (g.extract 0 810 ++ ⟨#[49]⟩), .int .i64 10] W (NOk m W))) (h0 : 0 < m) (hb : bln m ≤ 3300) (hE1 : -1300 ≤ E) (hE2 : E ≤ 1300) :
  Ct 141 #[.string s, .int .i64 X] (.float .f64 (Bp m E)) w := by
 by_cases hp : 0 ≤ E
 ·obtain ⟨k, rfl⟩ : ∃ k : Nat, E = k := ⟨E.toNat, by omega⟩
  obtain ⟨D, M, C4, C5, C6⟩ := Lf m k hb (by omega)
  exact Nx (w := w) (hs := hs) (hK := hK) (hN := hN) (Z1 := Z1) (Z2 := Z2) (C3 := C3) (C4 := C4) (C5 := C5) (C6 := C6) (u0 := decide_eq_true hp) (hN0 := hN0) (p1 := p1) (t0 := t0) (t1 := t1) (t2 := t2) (t3 := t3) (hg := hg) (hgN := hgN) (hN8 := hN8) (hrb := hrb) (q0 := q0) (q1 := q1) (q2 := q2) (_q3 := q3)
 ·obtain ⟨k, rfl⟩ : ∃ k : Nat, E = -(k : Int) := ⟨(-E).toNat, by omega⟩
  obtain ⟨D, M, bd, ba, U, hU, e1, e2, C4, C5, C6, C7, C8, C9, C10, C11, C12⟩ := Kt m k h0 hb (by omega)
  rw [show (k : Int) = -(-(k : Int)) by omega] at C4
  have u0 : decide (0 ≤ -(k : Int)) = false := decide_eq_false hp
  have u1 : wrap64 (- -(k : Int)) = - -(k : Int) := by unfold wrap64; omega
  have u2 : wrap64 ((bd : Int) - (ba : Int)) = (bd : Int) - ba := by unfold wrap64; omega
  have u3 : wrap64 ((bd : Int) - ba + 70) = (bd : Int) - ba + 70 := by unfold wrap64; omega
  have hu : (decide ((bd : Int) - ba + 70 < 0) = false ∧ U = (bd : Int) - ba + 70 ∧ wrap64 (-((bd : Int) - ba + 70)) = -((bd : Int) - ba + 70) ∧ wrap64 (-((bd : Int) - ba + 70) - 1) = -U - 1) ∨ (decide ((bd : Int) - ba + 70 < 0) = true ∧ U = 0 ∧ -U - 1 = -1) := by
   by_cases hU0 : (bd : Int) - ba + 70 < 0
   ·exact .inr ⟨decide_eq_true hU0, by omega, by omega⟩
   ·exact .inl ⟨decide_eq_false hU0, by omega, by unfold wrap64; omega, by unfold wrap64; omega⟩
  by_cases hr : M % D = 0
  ·exact Mk (w := w) (hs := hs) (hK := hK) (hN := hN) (Z1 := Z1) (Z2 := Z2) (C3 := C3) (C4 := C4) (C5 := C5) (C6 := C6) (C7 := C7) (C8 := C8) (C9 := C9) (C11 := C11 hr) (hrem := hr) (u0 := u0) (u1 := u1) (u2 := u2) (u3 := u3) (hu := hu) (hN0 := hN0) (p1 := p1) (t0 := t0) (t1 := t1) (t2 := t2) (t3 := t3) (hg := hg) (hgN := hgN) (hN8 := hN8) (hrb := hrb) (q0 := q0) (q1 := q1) (q2 := q2) (_q3 := q3)
  ·exact Md (w := w) (hs := hs) (hK := hK) (hN := hN) (Z1 := Z1) (Z2 := Z2) (C3 := C3) (C4 := C4) (C5 := C5) (C6 := C6) (C7 := C7) (C8 := C8) (C9 := C9) (C10 := C10) (C11 := C12 hr) (hrem := hr) (u0 := u0) (u1 := u1) (u2 := u2) (u3 := u3) (hu := hu) (hN0 := hN0) (p1 := p1) (t0 := t0) (t1 := t1) (t2 := t2) (t3 := t3) (hg := hg) (hgN := hgN) (hN8 := hN8) (hrb := hrb) (q0 := q0) (q1 := q1) (q2 := q2) (_q3 := q3)
theorem Jc (l : List Nat) (w : World) (hd : ∀ c ∈ l, Bw c = true) (h0 : l ≠ []) (hl : l.length ≤ 820) : Cp 195 #[.string (Ab l), .int .i64 10] w (NOk (num 10 l) w) := by
 have hb := Ak (Gm hd)
 have hz := Ah l
 have hp : 0 < l.length := List.length_pos_iff.2 h0
 have h := Ada (Ab l) 10 w (by omega) (by omega) (by omega) (fun i hi => by
  rw [Uf _ _ hi, hb, List.getD_eq_getElem?_getD, List.getElem?_eq_getElem (by omega)]
  exact (In (hd _ (List.getElem_mem _))).2) (by omega)
 rw [Uj, hb] at h
 refine h.mono fun e w' x => NOk.of (Cv ?_) x
 have h1 := Hn hd
 have h2 := Cx (Nat.le_of_lt h1)
 have h3 := He l.length
 omega
theorem Nm {l : List Nat} (hd : ∀ c ∈ l, Bw c = true) (hl : l.length ≤ 820) : bln (num 10 l) ≤ 3300 := by
 have h2 := Cx (Nat.le_of_lt (Hn hd))
 have h3 := He l.length
 omega
theorem V6 (f : List Nat) : f.drop (f.length - (ldz f).length) = ldz f := by
 obtain ⟨z, hz⟩ := Dd f
 have hz' : f = List.replicate z 48 ++ ldz f := hz
 have hl := congrArg List.length hz'
 rw [List.length_append, List.length_replicate] at hl
 rw [show f.length - (ldz f).length = z by omega]
 conv => lhs; rw [hz']
 rw [List.drop_append, List.drop_of_length_le (by simp)]
 simp
theorem Ra (f : List Nat) (k : Nat) (h : k < f.length - (ldz f).length) : f[k]? = some 48 := by
 obtain ⟨z, hz⟩ := Dd f
 have hz' : f = List.replicate z 48 ++ ldz f := hz
 have hl := congrArg List.length hz'
 rw [List.length_append, List.length_replicate] at hl
 rw [hz', List.getElem?_append_left (by rw [List.length_replicate]; omega), List.getElem?_replicate, if_pos (by omega)]
theorem Fp (f : List Nat) (X : Int) (w : World) (hd : ∀ c ∈ f, Bw c = true) (hl : f.length ≤ 281474976710656) (hX : -1125899906842624 < X ∧ X < 1125899906842624) :
  Ct 141 #[.string (Ab f), .int .i64 X] (.float .f64 (Bp (num 10 f) X)) w := by
 have hb := Ak (Gm hd)
 have hz := Ah f
 have hg : ∀ c ∈ ldz f, Bw c = true := fun c hc => hd c (E3 hc)
 have hgl : (ldz f).length ≤ f.length := (List.dropWhile_sublist _).length_le
 have hdr := V6 f
 have hex : (Ab f).extract (f.length - (ldz f).length) (Ab f).size = Ab (ldz f) := by rw [Ge, hb, hdr]
 have hnum : num 10 (ldz f) = num 10 f := Cu 10 f
 have Z1 : Hid (∀ k (h : k < (Ab f).size), k < f.length - (ldz f).length → ((Ab f)[k]'h).toNat = 48) := Lh (fun k h hk => by
  have h1 := C0 (Ab f) k h
  rw [hb, Ra f k hk] at h1
  exact (Option.some.inj h1).symm)
 have Z2 : Hid (∀ h : f.length - (ldz f).length < (Ab f).size, ((Ab f)[f.length - (ldz f).length]'h).toNat ≠ 48) := Lh (fun h e => by
  have h1 := C0 (Ab f) _ h
  rw [hb, e] at h1
  have h2 : (f.drop (f.length - (ldz f).length)).head? = some 48 := by rw [List.head?_drop]; exact h1
  rw [hdr] at h2
  exact Ch f h2)
 obtain ⟨N, hN⟩ : ∃ N, (ldz f).length = N := ⟨_, rfl⟩
 obtain ⟨K, hK⟩ : ∃ K, f.length - (ldz f).length = K := ⟨_, rfl⟩
 rw [hK] at hex Z1 Z2
 have a1 : (Ab f).size ≤ 281474976710656 := by omega
 have a2 : K ≤ (Ab f).size := by omega
 have a3 : (Ab f).size - K = N := by omega
 by_cases h0 : N = 0
 ·have : ldz f = [] := List.length_eq_zero_iff.1 (by omega)
  rw [show Bp (num 10 f) X = 0 by rw [← hnum, this, Aa6, R7]]
  exact Adu (Ab f) K N X w a1 a2 a3 Z1 Z2 h0
 ·have hne : ldz f ≠ [] := fun e => h0 (by rw [← hN, e]; rfl)
  have p1 : wrap64 ((N : Int) + X) = (N : Int) + X := by unfold wrap64; omega
  have t0 : ((N : Int) == 0) = false := by rw [beq_eq_false_iff_ne]; omega
  by_cases h1 : 400 < (N : Int) + X
  ·rw [Acl hd hne (by omega)]
   exact Adb (Ab f) K N X _ w a1 a2 a3 Z1 Z2 (by omega) p1 t0 (decide_eq_true h1)
  ·by_cases h2 : (N : Int) + X < -400
   ·rw [← hnum, Ri (Hn hg) (by omega)]
    exact Aha (Ab f) K N X _ w a1 a2 a3 Z1 Z2 (by omega) p1 t0 (decide_eq_false h1) (decide_eq_true h2)
   ·by_cases h3 : 820 < (N : Int)
    ·have hlen : (Ab (ldz f)).size = N := by rw [Ah, hN]
     have hbg := Ak (Gm hg)
     have q0 : wrap64 (X + (N : Int)) = X + N := by unfold wrap64; omega
     have hlt : ((ldz f).take 810).length = 810 := by rw [List.length_take]; omega
     have htd : ∀ c ∈ (ldz f).take 810, Bw c = true := fun c hc => hg c (List.mem_of_mem_take hc)
     have ht0 : (ldz f).take 810 ≠ [] := fun e => by rw [e] at hlt; simp at hlt
     have hth : ((ldz f).take 810).head? ≠ some 48 := by rw [Rr (by omega)]; exact Ch f
     have hx8 : (Ab (ldz f)).extract 0 810 = Ab ((ldz f).take 810) := by rw [Fb, hbg]
     cases hrb : ((ldz f).drop 810).any (· != 48)
     ·have hc : ∀ c ∈ (ldz f).drop 810, c = 48 := fun c hc => by
       have := List.any_eq_false.1 hrb c hc
       simpa using this
      rw [Ads hc, hN, show X + ((N - 810 : Nat) : Int) = X + N - 810 by omega]
      have C3 : Hid (∀ W, Cp 195 #[.string ((Ab (ldz f)).extract 0 810), .int .i64 10] W (NOk (num 10 ((ldz f).take 810)) W)) := Lh (fun W => by
       rw [hx8]
       exact Jc _ W htd ht0 (by omega))
      exact Zr (Ab f) K N X _ (num 10 ((ldz f).take 810)) (Ab (ldz f)) (X + N) (X + N - 810) w a1 a2 a3 Z1 Z2 (by omega) p1 t0 (decide_eq_false h1) (decide_eq_false h2) (decide_eq_true h3) hex hlen (by omega) (by rw [hbg]; exact hrb) q0 (by unfold wrap64; omega) C3
       (Nat.lt_of_lt_of_le (Au _) (Hj htd ht0 hth)) (Nm htd (by omega)) (by omega) (by omega)
     ·obtain ⟨c, hc1, hc2⟩ := List.any_eq_true.1 hrb
      rw [Adn hd (by omega) (by omega) ⟨c, hc1, by simpa using hc2⟩, hN, show X + ((N - 810 : Nat) : Int) - 1 = X + N - 810 - 1 by omega]
      obtain ⟨l, hl2⟩ : ∃ l, (ldz f).take 810 ++ [49] = l := ⟨_, rfl⟩
      have ll : l.length = 811 := by rw [← hl2, List.length_append, hlt]; rfl
      have ld : ∀ c ∈ l, Bw c = true := by
       intro c hc
       rw [← hl2] at hc
       rcases List.mem_append.1 hc with h | h
       ·exact htd c h
       ·rw [List.mem_singleton.1 h]; rfl
      have l0 : l ≠ [] := fun e => by rw [e] at ll; simp at ll
      have lh : l.head? ≠ some 48 := by
       rw [← hl2]
       cases ht : (ldz f).take 810 with
       | nil => exact absurd ht ht0
       | cons a b =>
        rw [ht] at hth
        exact hth
      have hstr : (Ab (ldz f)).extract 0 810 ++ (⟨#[49]⟩ : ByteArray) = Ab l := by
       rw [hx8, ← hl2, ← Bc]
       rfl
      rw [hl2]
      have C3 : Hid (∀ W, Cp 195 #[.string ((Ab (ldz f)).extract 0 810 ++ ⟨#[49]⟩), .int .i64 10] W (NOk (num 10 l) W)) := Lh (fun W => by
       rw [hstr]
       exact Jc _ W ld l0 (by omega))
      exact Yv (Ab f) K N X _ (num 10 l) (Ab (ldz f)) (X + N) (X + N - 810) (X + N - 810 - 1) w a1 a2 a3 Z1 Z2 (by omega) p1 t0 (decide_eq_false h1) (decide_eq_false h2) (decide_eq_true h3) hex hlen (by omega) (by rw [hbg]; exact hrb) q0 (by unfold wrap64; omega) (by unfold wrap64; omega) (by rw [hx8, Ah]; omega) C3
       (Nat.lt_of_lt_of_le (Au _) (Hj ld l0 lh)) (Nm ld (by omega)) (by omega) (by omega)
    ·rw [← hnum]
     have C3 : Hid (∀ W, Cp 195 #[.string ((Ab f).extract K (Ab f).size), .int .i64 10] W (NOk (num 10 (ldz f)) W)) := Lh (fun W => by
      rw [hex]
      exact Jc _ W hg hne (by omega))
     exact Y7 (Ab f) K N X _ (num 10 (ldz f)) w a1 a2 a3 Z1 Z2 (by omega) p1 t0 (decide_eq_false h1) (decide_eq_false h2) (decide_eq_false h3) C3
      (Nat.lt_of_lt_of_le (Au _) (Hj hg hne (Ch f))) (Nm hg (by omega)) (by omega) (by omega)
end
section
theorem Sa : ∀ (g : List Nat) (n : Nat), 1099511627776 ≤ n → g.foldl Qi n = n
 | [], _, _ => rfl
 | c :: g, n, h => by
  have : Qi n c = n := if_neg (by omega)
  rw [List.foldl_cons, this]
  exact Sa g n h
theorem Gv (f : List Nat) (j : Nat) (h : 1099511627776 ≤ amt (f.take j)) : amt f = amt (f.take j) := by
 conv => lhs; rw [← List.take_append_drop j f]
 unfold amt at h ⊢
 rw [List.foldl_append]
 exact Sa _ _ h
end
section
theorem Aes (s G : ByteArray) (at' F : Nat) (E : Int) (w : World) (hs : s.size ≤ 140737488355328)  (ha : at' = s.size)
  (C2 : Hid (∀ W, Ct 141 #[.string G, .int .i64 E] (.float .f64 F) W)) :
  Ct 111 #[.string s, .int .i64 (at' : Nat), .string G, .int .i64 E] (.tuple #[.int .i64 (at' : Nat), .float .f64 F]) w := by
 have h1 : (s.size : Int) ≤ 140737488355328 := by omega
 have a1 : (0 : Int) ≤ (at' : Int) := by omega
 have t0 : ¬ (at' : Int) < (s.size : Int) := by omega
 have a2 : (at' : Int) ≤ 140737488355328 := by omega
 clear hs ha
 go_enter Tryz.func111, Tryz.ntmps111
 go_wp2_with fail
 refine (C2.out _).mono ?_
 rintro e w' ⟨rfl, hb⟩
 go_wp2
 go_ret2
 exact ⟨rfl, hb⟩
theorem Xx (s G : ByteArray) (at' F : Nat) (E : Int) (w : World) (hs : s.size ≤ 140737488355328)  (B : Nat) (h : at' < s.size) (hB : (s[at']'h).toNat = B) (n1 : B ≠ 101) (n2 : B ≠ 69)
  (C2 : Hid (∀ W, Ct 141 #[.string G, .int .i64 E] (.float .f64 F) W)) :
  Ct 111 #[.string s, .int .i64 (at' : Nat), .string G, .int .i64 E] (.tuple #[.int .i64 (at' : Nat), .float .f64 F]) w := by
 have h1 : (s.size : Int) ≤ 140737488355328 := by omega
 have a1 : (0 : Int) ≤ (at' : Int) := by omega
 have a2 : (at' : Int) < (s.size : Int) := by omega
 have e0 : ((s[at']'h).toNat : Int) = (B : Int) := by rw [hB]
 have e1 : ((B : Int) == 101) = false := by rw [beq_eq_false_iff_ne]; omega
 have e2 : ((B : Int) == 69) = false := by rw [beq_eq_false_iff_ne]; omega
 clear hs hB n1 n2
 go_enter Tryz.func111, Tryz.ntmps111
 go_wp2_with fail
 refine (C2.out _).mono ?_
 rintro e w' ⟨rfl, hb⟩
 go_wp2
 go_ret2
 exact ⟨rfl, hb⟩
theorem Kh (s G : ByteArray) (at' F : Nat) (E : Int) (w : World) (hs : s.size ≤ 140737488355328)  (h : at' < s.size) (hc : (s[at']'h).toNat = 101) (g : at' + 1 = s.size)
  (C1 : Hid (∀ W, Cq 110 #[.string s, .int .i64 ((at' : Int) + 1)] (.int .i64 0) W))
  (C2 : Hid (∀ W, Ct 141 #[.string G, .int .i64 E] (.float .f64 F) W)) :
  Ct 111 #[.string s, .int .i64 (at' : Nat), .string G, .int .i64 E] (.tuple #[.int .i64 (at' : Nat), .float .f64 F]) w := by
 have h1 : (s.size : Int) ≤ 140737488355328 := by omega
 have a1 : (0 : Int) ≤ (at' : Int) := by omega
 have a2 : (at' : Int) < (s.size : Int) := by omega
 have e0 : ((s[at']'h).toNat : Int) = 101 := by rw [hc]; rfl
 have t0 : decide ((at' : Int) + 1 < (s.size : Int)) = false := decide_eq_false (by omega)
 clear hs hc g
 go_enter Tryz.func111, Tryz.ntmps111
 go_wp2_with fail
 refine Sm (C1.out _) ?_
 go_wp2_with fail
 refine (C2.out _).mono ?_
 rintro e w' ⟨rfl, hb⟩
 go_wp2
 go_ret2
 exact ⟨rfl, hb⟩
theorem Jk (s G : ByteArray) (at' F : Nat) (E : Int) (w : World) (hs : s.size ≤ 140737488355328)  (B : Nat) (h : at' < s.size) (hc : (s[at']'h).toNat = 101) (g : at' + 1 < s.size) (hB : (s[at' + 1]'g).toNat = B) (n1 : B ≠ 45) (n2 : B ≠ 43)
  (C1 : Hid (∀ W, Cq 110 #[.string s, .int .i64 ((at' : Int) + 1)] (.int .i64 0) W))
  (C2 : Hid (∀ W, Ct 141 #[.string G, .int .i64 E] (.float .f64 F) W)) :
  Ct 111 #[.string s, .int .i64 (at' : Nat), .string G, .int .i64 E] (.tuple #[.int .i64 (at' : Nat), .float .f64 F]) w := by
 have h1 : (s.size : Int) ≤ 140737488355328 := by omega
 have a1 : (0 : Int) ≤ (at' : Int) := by omega
 have a2 : (at' : Int) < (s.size : Int) := by omega
 have e0 : ((s[at']'h).toNat : Int) = 101 := by rw [hc]; rfl
 have b1 : (0 : Int) ≤ (at' : Int) + 1 := by omega
 have b2 : (at' : Int) + 1 < (s.size : Int) := by omega
 have b3 : ((at' : Int) + 1).toNat = at' + 1 := by omega
 have e1 : ((s[at' + 1]'g).toNat : Int) = (B : Int) := by rw [hB]
 have e2 : ((B : Int) == 45) = false := by rw [beq_eq_false_iff_ne]; omega
 have e3 : ((B : Int) == 43) = false := by rw [beq_eq_false_iff_ne]; omega
 clear hs hc hB n1 n2
 go_enter Tryz.func111, Tryz.ntmps111
 go_wp2_with fail
 refine Sm (C1.out _) ?_
 go_wp2_with fail
 refine (C2.out _).mono ?_
 rintro e w' ⟨rfl, hb⟩
 go_wp2
 go_ret2
 exact ⟨rfl, hb⟩
theorem Kb (s G : ByteArray) (at' F : Nat) (E : Int) (w : World) (hs : s.size ≤ 140737488355328) (hE1 : -281474976710656 ≤ E) (hE2 : E ≤ 281474976710656) (B : Nat) (n : Nat) (R : List Nat) (h : at' < s.size) (hc : (s[at']'h).toNat = 101) (g : at' + 1 < s.size) (hB : (s[at' + 1]'g).toNat = B) (n1 : B ≠ 45) (n2 : B ≠ 43) (hn0 : 0 < n) (hR : R.length = n) (hd : ∀ c ∈ R, Bw c = true) (hRs : ∀ j, j < n → ∃ hj : at' + 1 + j < s.size, R[j]? = some (s[at' + 1 + j]'hj).toNat)
  (C1 : Hid (∀ W, Cq 110 #[.string s, .int .i64 ((at' : Int) + 1)] (.int .i64 (n : Nat)) W))
  (C2 : Hid (∀ W, Ct 141 #[.string G, .int .i64 (E + (amt R : Nat))] (.float .f64 F) W)) :
  Ct 111 #[.string s, .int .i64 (at' : Nat), .string G, .int .i64 E] (.tuple #[.int .i64 ((at' : Int) + 1 + (n : Int)), .float .f64 F]) w := by
 have h1 : (s.size : Int) ≤ 140737488355328 := by omega
 have a1 : (0 : Int) ≤ (at' : Int) := by omega
 have a2 : (at' : Int) < (s.size : Int) := by omega
 have e0 : ((s[at']'h).toNat : Int) = 101 := by rw [hc]; rfl
 have b1 : (0 : Int) ≤ (at' : Int) + 1 := by omega
 have b2 : (at' : Int) + 1 < (s.size : Int) := by omega
 have b3 : ((at' : Int) + 1).toNat = at' + 1 := by omega
 have e1 : ((s[at' + 1]'g).toNat : Int) = (B : Int) := by rw [hB]
 have e2 : ((B : Int) == 45) = false := by rw [beq_eq_false_iff_ne]; omega
 have e3 : ((B : Int) == 43) = false := by rw [beq_eq_false_iff_ne]; omega
 have hnl : n ≤ s.size := by
  obtain ⟨x, _⟩ := hRs (n - 1) (by omega)
  omega
 have n3 : (n : Int) ≤ (s.size : Int) := by omega
 have n4 : (0 : Int) < (n : Int) := by omega
 have HD := Lh hd
 have HR := Lh hR
 have HRS := Lh hRs
 clear hd hR hRs hn0 hnl
 clear hs hc hB n1 n2
 go_enter Tryz.func111, Tryz.ntmps111
 go_wp2_with fail
 refine Sm (C1.out _) ?_
 go_wp2
 clear e0 e1 e2 e3 n4
 go_loopw [13, 14] (fun x i wr => ∃ j : Nat, i = .int .i64 j ∧ j ≤ n ∧ x = .int .i64 (amt (R.take j) : Nat) ∧ w = wr) (fun _ i _ => n - (intOf i).toNat)
 case atStart => exact ⟨0, rfl, Nat.zero_le _, rfl, rfl⟩
 case round =>
  obtain ⟨j, rfl, hj, rfl, rfl⟩ := hrel
  obtain ⟨N, hN⟩ : ∃ N, amt (R.take j) = N := ⟨_, rfl⟩
  have hNl : N < 10995116277760 := by rw [← hN]; exact Hf _ (fun c hc => HD.out c (List.mem_of_mem_take hc))
  have hNl2 : (N : Int) < 10995116277760 := by omega
  have HN := Lh hN
  rw [hN]
  clear hN
  by_cases hlt : j < n
  ·have l1 : (j : Int) < (n : Int) := by omega
   by_cases hst : N < 1099511627776
   ·obtain ⟨hx, hget⟩ := HRS.out j hlt
    obtain ⟨B9, hB9⟩ : ∃ B9 : Nat, (s[at' + 1 + j]'hx).toNat = B9 := ⟨_, rfl⟩
    rw [hB9] at hget
    have hdB := Bs.1 (HD.out B9 (List.mem_of_getElem? hget))
    have hstep : amt (R.take (j + 1)) = N * 10 + (B9 - 48) := by
     rw [List.take_add_one, hget]
     refine (F6 _ _).trans ?_
     rw [HN.out]
     exact if_pos hst
    obtain ⟨D, hD⟩ : ∃ D : Nat, B9 - 48 = D := ⟨_, rfl⟩
    obtain ⟨M, hM⟩ : ∃ M : Nat, N * 10 + D = M := ⟨_, rfl⟩
    have HS := Lh (show amt (R.take (j + 1)) = M from by rw [hstep, hD, hM])
    have l2 : (N : Int) < 1099511627776 := by omega
    have l3 : (0 : Int) ≤ (at' : Int) + 1 + (j : Int) := by omega
    have l4 : (at' : Int) + 1 + (j : Int) < (s.size : Int) := by omega
    have l5 : ((at' : Int) + 1 + (j : Int)).toNat = at' + 1 + j := by omega
    have l6 : ((s[at' + 1 + j]'hx).toNat : Int) = (B9 : Int) := by rw [hB9]
    have l7 : IntKind.u8.wrap ((B9 : Int) - 48) = (D : Int) := by rw [IntWalk.u8_in _ (by omega)]; omega
    have l8 : IntKind.i64.wrap (D : Int) = (D : Int) := IntWalk.i64_in _ (by omega)
    have l9 : (N : Int) * 10 + (D : Int) = (M : Int) := by omega
    have l10 : IntKind.i64.wrap ((N : Int) * 10) = (N : Int) * 10 := IntWalk.i64_in _ (by omega)
    have l11 : IntKind.i64.wrap ((N : Int) * 10 + (D : Int)) = (M : Int) := by rw [IntWalk.i64_in _ (by omega)]; omega
    clear hstep hD hM hdB hget hB9 hst l9 hNl
    go_wp2
    exact ⟨⟨j + 1, by go_num, by omega, by rw [HS.out], trivial⟩, by simp [intOf]; omega⟩
   ·have HZ := Lh (show amt R = N from by rw [Gv R j (by rw [HN.out]; omega), HN.out])
    have l2 : decide ((N : Int) < 1099511627776) = false := decide_eq_false (by omega)
    rw [HZ.out] at C2
    clear hst hNl
    go_wp2_with fail
    refine (C2.out _).mono ?_
    rintro e w' ⟨rfl, hb⟩
    go_wp2
    go_ret2
    exact ⟨rfl, hb⟩
  ·have HZ := Lh (show amt R = N from by rw [← HN.out, List.take_of_length_le (by rw [HR.out]; omega)])
   have l2 : ¬ (j : Int) < (n : Int) := by omega
   rw [HZ.out] at C2
   clear hlt hNl
   go_wp2_with fail
   refine (C2.out _).mono ?_
   rintro e w' ⟨rfl, hb⟩
   go_wp2
   go_ret2
   exact ⟨rfl, hb⟩
theorem Ju (s G : ByteArray) (at' F : Nat) (E : Int) (w : World) (hs : s.size ≤ 140737488355328)  (h : at' < s.size) (hc : (s[at']'h).toNat = 101) (g : at' + 1 < s.size) (hB : (s[at' + 1]'g).toNat = 45)
  (C1 : Hid (∀ W, Cq 110 #[.string s, .int .i64 ((at' : Int) + 1 + 1)] (.int .i64 0) W))
  (C2 : Hid (∀ W, Ct 141 #[.string G, .int .i64 E] (.float .f64 F) W)) :
  Ct 111 #[.string s, .int .i64 (at' : Nat), .string G, .int .i64 E] (.tuple #[.int .i64 (at' : Nat), .float .f64 F]) w := by
 have h1 : (s.size : Int) ≤ 140737488355328 := by omega
 have a1 : (0 : Int) ≤ (at' : Int) := by omega
 have a2 : (at' : Int) < (s.size : Int) := by omega
 have e0 : ((s[at']'h).toNat : Int) = 101 := by rw [hc]; rfl
 have b1 : (0 : Int) ≤ (at' : Int) + 1 := by omega
 have b2 : (at' : Int) + 1 < (s.size : Int) := by omega
 have b3 : ((at' : Int) + 1).toNat = at' + 1 := by omega
 have e1 : ((s[at' + 1]'g).toNat : Int) = 45 := by rw [hB]; rfl
 clear hs hc hB
 go_enter Tryz.func111, Tryz.ntmps111
 go_wp2_with fail
 refine Sm (C1.out _) ?_
 go_wp2_with fail
 refine (C2.out _).mono ?_
 rintro e w' ⟨rfl, hb⟩
 go_wp2
 go_ret2
 exact ⟨rfl, hb⟩
theorem J0 (s G : ByteArray) (at' F : Nat) (E : Int) (w : World) (hs : s.size ≤ 140737488355328) (hE1 : -281474976710656 ≤ E) (hE2 : E ≤ 281474976710656) (n : Nat) (R : List Nat) (h : at' < s.size) (hc : (s[at']'h).toNat = 101) (g : at' + 1 < s.size) (hB : (s[at' + 1]'g).toNat = 45) (hn0 : 0 < n) (hR : R.length = n) (hd : ∀ c ∈ R, Bw c = true) (hRs : ∀ j, j < n → ∃ hj : at' + 2 + j < s.size, R[j]? = some (s[at' + 2 + j]'hj).toNat)
  (C1 : Hid (∀ W, Cq 110 #[.string s, .int .i64 ((at' : Int) + 1 + 1)] (.int .i64 (n : Nat)) W))
  (C2 : Hid (∀ W, Ct 141 #[.string G, .int .i64 (E + -(amt R : Nat))] (.float .f64 F) W)) :
  Ct 111 #[.string s, .int .i64 (at' : Nat), .string G, .int .i64 E] (.tuple #[.int .i64 ((at' : Int) + 1 + 1 + (n : Int)), .float .f64 F]) w := by
 have h1 : (s.size : Int) ≤ 140737488355328 := by omega
 have a1 : (0 : Int) ≤ (at' : Int) := by omega
 have a2 : (at' : Int) < (s.size : Int) := by omega
 have e0 : ((s[at']'h).toNat : Int) = 101 := by rw [hc]; rfl
 have b1 : (0 : Int) ≤ (at' : Int) + 1 := by omega
 have b2 : (at' : Int) + 1 < (s.size : Int) := by omega
 have b3 : ((at' : Int) + 1).toNat = at' + 1 := by omega
 have e1 : ((s[at' + 1]'g).toNat : Int) = 45 := by rw [hB]; rfl
 have hnl : n ≤ s.size := by
  obtain ⟨x, _⟩ := hRs (n - 1) (by omega)
  omega
 have n3 : (n : Int) ≤ (s.size : Int) := by omega
 have n4 : (0 : Int) < (n : Int) := by omega
 have HD := Lh hd
 have HR := Lh hR
 have HRS := Lh hRs
 clear hd hR hRs hn0 hnl
 clear hs hc hB
 go_enter Tryz.func111, Tryz.ntmps111
 go_wp2_with fail
 refine Sm (C1.out _) ?_
 go_wp2
 clear e0 e1 n4
 go_loopw [13, 14] (fun x i wr => ∃ j : Nat, i = .int .i64 j ∧ j ≤ n ∧ x = .int .i64 (amt (R.take j) : Nat) ∧ w = wr) (fun _ i _ => n - (intOf i).toNat)
 case atStart => exact ⟨0, rfl, Nat.zero_le _, rfl, rfl⟩
 case round =>
  obtain ⟨j, rfl, hj, rfl, rfl⟩ := hrel
  obtain ⟨N, hN⟩ : ∃ N, amt (R.take j) = N := ⟨_, rfl⟩
  have hNl : N < 10995116277760 := by rw [← hN]; exact Hf _ (fun c hc => HD.out c (List.mem_of_mem_take hc))
  have hNl2 : (N : Int) < 10995116277760 := by omega
  have HN := Lh hN
  rw [hN]
  clear hN
  by_cases hlt : j < n
  ·have l1 : (j : Int) < (n : Int) := by omega
   by_cases hst : N < 1099511627776
   ·obtain ⟨hx, hget⟩ := HRS.out j hlt
    obtain ⟨B9, hB9⟩ : ∃ B9 : Nat, (s[at' + 2 + j]'hx).toNat = B9 := ⟨_, rfl⟩
    rw [hB9] at hget
    have hdB := Bs.1 (HD.out B9 (List.mem_of_getElem? hget))
    have hstep : amt (R.take (j + 1)) = N * 10 + (B9 - 48) := by
     rw [List.take_add_one, hget]
     refine (F6 _ _).trans ?_
     rw [HN.out]
     exact if_pos hst
    obtain ⟨D, hD⟩ : ∃ D : Nat, B9 - 48 = D := ⟨_, rfl⟩
    obtain ⟨M, hM⟩ : ∃ M : Nat, N * 10 + D = M := ⟨_, rfl⟩
    have HS := Lh (show amt (R.take (j + 1)) = M from by rw [hstep, hD, hM])
    have l2 : (N : Int) < 1099511627776 := by omega
    have l3 : (0 : Int) ≤ (at' : Int) + 1 + 1 + (j : Int) := by omega
    have l4 : (at' : Int) + 1 + 1 + (j : Int) < (s.size : Int) := by omega
    have l5 : ((at' : Int) + 1 + 1 + (j : Int)).toNat = at' + 2 + j := by omega
    have l6 : ((s[at' + 2 + j]'hx).toNat : Int) = (B9 : Int) := by rw [hB9]
    have l7 : IntKind.u8.wrap ((B9 : Int) - 48) = (D : Int) := by rw [IntWalk.u8_in _ (by omega)]; omega
    have l8 : IntKind.i64.wrap (D : Int) = (D : Int) := IntWalk.i64_in _ (by omega)
    have l9 : (N : Int) * 10 + (D : Int) = (M : Int) := by omega
    have l10 : IntKind.i64.wrap ((N : Int) * 10) = (N : Int) * 10 := IntWalk.i64_in _ (by omega)
    have l11 : IntKind.i64.wrap ((N : Int) * 10 + (D : Int)) = (M : Int) := by rw [IntWalk.i64_in _ (by omega)]; omega
    clear hstep hD hM hdB hget hB9 hst l9 hNl
    go_wp2
    exact ⟨⟨j + 1, by go_num, by omega, by rw [HS.out], trivial⟩, by simp [intOf]; omega⟩
   ·have HZ := Lh (show amt R = N from by rw [Gv R j (by rw [HN.out]; omega), HN.out])
    have l2 : decide ((N : Int) < 1099511627776) = false := decide_eq_false (by omega)
    rw [HZ.out] at C2
    clear hst hNl
    go_wp2_with fail
    refine (C2.out _).mono ?_
    rintro e w' ⟨rfl, hb⟩
    go_wp2
    go_ret2
    exact ⟨rfl, hb⟩
  ·have HZ := Lh (show amt R = N from by rw [← HN.out, List.take_of_length_le (by rw [HR.out]; omega)])
   have l2 : ¬ (j : Int) < (n : Int) := by omega
   rw [HZ.out] at C2
   clear hlt hNl
   go_wp2_with fail
   refine (C2.out _).mono ?_
   rintro e w' ⟨rfl, hb⟩
   go_wp2
   go_ret2
   exact ⟨rfl, hb⟩
theorem Lb (s G : ByteArray) (at' F : Nat) (E : Int) (w : World) (hs : s.size ≤ 140737488355328)  (h : at' < s.size) (hc : (s[at']'h).toNat = 101) (g : at' + 1 < s.size) (hB : (s[at' + 1]'g).toNat = 43)
  (C1 : Hid (∀ W, Cq 110 #[.string s, .int .i64 ((at' : Int) + 1 + 1)] (.int .i64 0) W))
  (C2 : Hid (∀ W, Ct 141 #[.string G, .int .i64 E] (.float .f64 F) W)) :
  Ct 111 #[.string s, .int .i64 (at' : Nat), .string G, .int .i64 E] (.tuple #[.int .i64 (at' : Nat), .float .f64 F]) w := by
 have h1 : (s.size : Int) ≤ 140737488355328 := by omega
 have a1 : (0 : Int) ≤ (at' : Int) := by omega
 have a2 : (at' : Int) < (s.size : Int) := by omega
 have e0 : ((s[at']'h).toNat : Int) = 101 := by rw [hc]; rfl
 have b1 : (0 : Int) ≤ (at' : Int) + 1 := by omega
 have b2 : (at' : Int) + 1 < (s.size : Int) := by omega
 have b3 : ((at' : Int) + 1).toNat = at' + 1 := by omega
 have e1 : ((s[at' + 1]'g).toNat : Int) = 43 := by rw [hB]; rfl
 clear hs hc hB
 go_enter Tryz.func111, Tryz.ntmps111
 go_wp2_with fail
 refine Sm (C1.out _) ?_
 go_wp2_with fail
 refine (C2.out _).mono ?_
 rintro e w' ⟨rfl, hb⟩
 go_wp2
 go_ret2
 exact ⟨rfl, hb⟩
theorem Kx (s G : ByteArray) (at' F : Nat) (E : Int) (w : World) (hs : s.size ≤ 140737488355328) (hE1 : -281474976710656 ≤ E) (hE2 : E ≤ 281474976710656) (n : Nat) (R : List Nat) (h : at' < s.size) (hc : (s[at']'h).toNat = 101) (g : at' + 1 < s.size) (hB : (s[at' + 1]'g).toNat = 43) (hn0 : 0 < n) (hR : R.length = n) (hd : ∀ c ∈ R, Bw c = true) (hRs : ∀ j, j < n → ∃ hj : at' + 2 + j < s.size, R[j]? = some (s[at' + 2 + j]'hj).toNat)
  (C1 : Hid (∀ W, Cq 110 #[.string s, .int .i64 ((at' : Int) + 1 + 1)] (.int .i64 (n : Nat)) W))
  (C2 : Hid (∀ W, Ct 141 #[.string G, .int .i64 (E + (amt R : Nat))] (.float .f64 F) W)) :
  Ct 111 #[.string s, .int .i64 (at' : Nat), .string G, .int .i64 E] (.tuple #[.int .i64 ((at' : Int) + 1 + 1 + (n : Int)), .float .f64 F]) w := by
 have h1 : (s.size : Int) ≤ 140737488355328 := by omega
 have a1 : (0 : Int) ≤ (at' : Int) := by omega
 have a2 : (at' : Int) < (s.size : Int) := by omega
 have e0 : ((s[at']'h).toNat : Int) = 101 := by rw [hc]; rfl
 have b1 : (0 : Int) ≤ (at' : Int) + 1 := by omega
 have b2 : (at' : Int) + 1 < (s.size : Int) := by omega
 have b3 : ((at' : Int) + 1).toNat = at' + 1 := by omega
 have e1 : ((s[at' + 1]'g).toNat : Int) = 43 := by rw [hB]; rfl
 have hnl : n ≤ s.size := by
  obtain ⟨x, _⟩ := hRs (n - 1) (by omega)
  omega
 have n3 : (n : Int) ≤ (s.size : Int) := by omega
 have n4 : (0 : Int) < (n : Int) := by omega
 have HD := Lh hd
 have HR := Lh hR
 have HRS := Lh hRs
 clear hd hR hRs hn0 hnl
 clear hs hc hB
 go_enter Tryz.func111, Tryz.ntmps111
 go_wp2_with fail
 refine Sm (C1.out _) ?_
 go_wp2
 clear e0 e1 n4
 go_loopw [13, 14] (fun x i wr => ∃ j : Nat, i = .int .i64 j ∧ j ≤ n ∧ x = .int .i64 (amt (R.take j) : Nat) ∧ w = wr) (fun _ i _ => n - (intOf i).toNat)
 case atStart => exact ⟨0, rfl, Nat.zero_le _, rfl, rfl⟩
 case round =>
  obtain ⟨j, rfl, hj, rfl, rfl⟩ := hrel
  obtain ⟨N, hN⟩ : ∃ N, amt (R.take j) = N := ⟨_, rfl⟩
  have hNl : N < 10995116277760 := by rw [← hN]; exact Hf _ (fun c hc => HD.out c (List.mem_of_mem_take hc))
  have hNl2 : (N : Int) < 10995116277760 := by omega
  have HN := Lh hN
  rw [hN]
  clear hN
  by_cases hlt : j < n
  ·have l1 : (j : Int) < (n : Int) := by omega
   by_cases hst : N < 1099511627776
   ·obtain ⟨hx, hget⟩ := HRS.out j hlt
    obtain ⟨B9, hB9⟩ : ∃ B9 : Nat, (s[at' + 2 + j]'hx).toNat = B9 := ⟨_, rfl⟩
    rw [hB9] at hget
    have hdB := Bs.1 (HD.out B9 (List.mem_of_getElem? hget))
    have hstep : amt (R.take (j + 1)) = N * 10 + (B9 - 48) := by
     rw [List.take_add_one, hget]
     refine (F6 _ _).trans ?_
     rw [HN.out]
     exact if_pos hst
    obtain ⟨D, hD⟩ : ∃ D : Nat, B9 - 48 = D := ⟨_, rfl⟩
    obtain ⟨M, hM⟩ : ∃ M : Nat, N * 10 + D = M := ⟨_, rfl⟩
    have HS := Lh (show amt (R.take (j + 1)) = M from by rw [hstep, hD, hM])
    have l2 : (N : Int) < 1099511627776 := by omega
    have l3 : (0 : Int) ≤ (at' : Int) + 1 + 1 + (j : Int) := by omega
    have l4 : (at' : Int) + 1 + 1 + (j : Int) < (s.size : Int) := by omega
    have l5 : ((at' : Int) + 1 + 1 + (j : Int)).toNat = at' + 2 + j := by omega
    have l6 : ((s[at' + 2 + j]'hx).toNat : Int) = (B9 : Int) := by rw [hB9]
    have l7 : IntKind.u8.wrap ((B9 : Int) - 48) = (D : Int) := by rw [IntWalk.u8_in _ (by omega)]; omega
    have l8 : IntKind.i64.wrap (D : Int) = (D : Int) := IntWalk.i64_in _ (by omega)
    have l9 : (N : Int) * 10 + (D : Int) = (M : Int) := by omega
    have l10 : IntKind.i64.wrap ((N : Int) * 10) = (N : Int) * 10 := IntWalk.i64_in _ (by omega)
    have l11 : IntKind.i64.wrap ((N : Int) * 10 + (D : Int)) = (M : Int) := by rw [IntWalk.i64_in _ (by omega)]; omega
    clear hstep hD hM hdB hget hB9 hst l9 hNl
    go_wp2
    exact ⟨⟨j + 1, by go_num, by omega, by rw [HS.out], trivial⟩, by simp [intOf]; omega⟩
   ·have HZ := Lh (show amt R = N from by rw [Gv R j (by rw [HN.out]; omega), HN.out])
    have l2 : decide ((N : Int) < 1099511627776) = false := decide_eq_false (by omega)
    rw [HZ.out] at C2
    clear hst hNl
    go_wp2_with fail
    refine (C2.out _).mono ?_
    rintro e w' ⟨rfl, hb⟩
    go_wp2
    go_ret2
    exact ⟨rfl, hb⟩
  ·have HZ := Lh (show amt R = N from by rw [← HN.out, List.take_of_length_le (by rw [HR.out]; omega)])
   have l2 : ¬ (j : Int) < (n : Int) := by omega
   rw [HZ.out] at C2
   clear hlt hNl
   go_wp2_with fail
   refine (C2.out _).mono ?_
   rintro e w' ⟨rfl, hb⟩
   go_wp2
   go_ret2
   exact ⟨rfl, hb⟩
theorem Mc (s G : ByteArray) (at' F : Nat) (E : Int) (w : World) (hs : s.size ≤ 140737488355328)  (h : at' < s.size) (hc : (s[at']'h).toNat = 69) (g : at' + 1 = s.size)
  (C1 : Hid (∀ W, Cq 110 #[.string s, .int .i64 ((at' : Int) + 1)] (.int .i64 0) W))
  (C2 : Hid (∀ W, Ct 141 #[.string G, .int .i64 E] (.float .f64 F) W)) :
  Ct 111 #[.string s, .int .i64 (at' : Nat), .string G, .int .i64 E] (.tuple #[.int .i64 (at' : Nat), .float .f64 F]) w := by
 have h1 : (s.size : Int) ≤ 140737488355328 := by omega
 have a1 : (0 : Int) ≤ (at' : Int) := by omega
 have a2 : (at' : Int) < (s.size : Int) := by omega
 have e0 : ((s[at']'h).toNat : Int) = 69 := by rw [hc]; rfl
 have t0 : decide ((at' : Int) + 1 < (s.size : Int)) = false := decide_eq_false (by omega)
 clear hs hc g
 go_enter Tryz.func111, Tryz.ntmps111
 go_wp2_with fail
 refine Sm (C1.out _) ?_
 go_wp2_with fail
 refine (C2.out _).mono ?_
 rintro e w' ⟨rfl, hb⟩
 go_wp2
 go_ret2
 exact ⟨rfl, hb⟩
theorem Le (s G : ByteArray) (at' F : Nat) (E : Int) (w : World) (hs : s.size ≤ 140737488355328)  (B : Nat) (h : at' < s.size) (hc : (s[at']'h).toNat = 69) (g : at' + 1 < s.size) (hB : (s[at' + 1]'g).toNat = B) (n1 : B ≠ 45) (n2 : B ≠ 43)
  (C1 : Hid (∀ W, Cq 110 #[.string s, .int .i64 ((at' : Int) + 1)] (.int .i64 0) W))
  (C2 : Hid (∀ W, Ct 141 #[.string G, .int .i64 E] (.float .f64 F) W)) :
  Ct 111 #[.string s, .int .i64 (at' : Nat), .string G, .int .i64 E] (.tuple #[.int .i64 (at' : Nat), .float .f64 F]) w := by
 have h1 : (s.size : Int) ≤ 140737488355328 := by omega
 have a1 : (0 : Int) ≤ (at' : Int) := by omega
 have a2 : (at' : Int) < (s.size : Int) := by omega
 have e0 : ((s[at']'h).toNat : Int) = 69 := by rw [hc]; rfl
 have b1 : (0 : Int) ≤ (at' : Int) + 1 := by omega
 have b2 : (at' : Int) + 1 < (s.size : Int) := by omega
 have b3 : ((at' : Int) + 1).toNat = at' + 1 := by omega
 have e1 : ((s[at' + 1]'g).toNat : Int) = (B : Int) := by rw [hB]
 have e2 : ((B : Int) == 45) = false := by rw [beq_eq_false_iff_ne]; omega
 have e3 : ((B : Int) == 43) = false := by rw [beq_eq_false_iff_ne]; omega
 clear hs hc hB n1 n2
 go_enter Tryz.func111, Tryz.ntmps111
 go_wp2_with fail
 refine Sm (C1.out _) ?_
 go_wp2_with fail
 refine (C2.out _).mono ?_
 rintro e w' ⟨rfl, hb⟩
 go_wp2
 go_ret2
 exact ⟨rfl, hb⟩
theorem Kq (s G : ByteArray) (at' F : Nat) (E : Int) (w : World) (hs : s.size ≤ 140737488355328) (hE1 : -281474976710656 ≤ E) (hE2 : E ≤ 281474976710656) (B : Nat) (n : Nat) (R : List Nat) (h : at' < s.size) (hc : (s[at']'h).toNat = 69) (g : at' + 1 < s.size) (hB : (s[at' + 1]'g).toNat = B) (n1 : B ≠ 45) (n2 : B ≠ 43) (hn0 : 0 < n) (hR : R.length = n) (hd : ∀ c ∈ R, Bw c = true) (hRs : ∀ j, j < n → ∃ hj : at' + 1 + j < s.size, R[j]? = some (s[at' + 1 + j]'hj).toNat)
  (C1 : Hid (∀ W, Cq 110 #[.string s, .int .i64 ((at' : Int) + 1)] (.int .i64 (n : Nat)) W))
  (C2 : Hid (∀ W, Ct 141 #[.string G, .int .i64 (E + (amt R : Nat))] (.float .f64 F) W)) :
  Ct 111 #[.string s, .int .i64 (at' : Nat), .string G, .int .i64 E] (.tuple #[.int .i64 ((at' : Int) + 1 + (n : Int)), .float .f64 F]) w := by
 have h1 : (s.size : Int) ≤ 140737488355328 := by omega
 have a1 : (0 : Int) ≤ (at' : Int) := by omega
 have a2 : (at' : Int) < (s.size : Int) := by omega
 have e0 : ((s[at']'h).toNat : Int) = 69 := by rw [hc]; rfl
 have b1 : (0 : Int) ≤ (at' : Int) + 1 := by omega
 have b2 : (at' : Int) + 1 < (s.size : Int) := by omega
 have b3 : ((at' : Int) + 1).toNat = at' + 1 := by omega
 have e1 : ((s[at' + 1]'g).toNat : Int) = (B : Int) := by rw [hB]
 have e2 : ((B : Int) == 45) = false := by rw [beq_eq_false_iff_ne]; omega
 have e3 : ((B : Int) == 43) = false := by rw [beq_eq_false_iff_ne]; omega
 have hnl : n ≤ s.size := by
  obtain ⟨x, _⟩ := hRs (n - 1) (by omega)
  omega
 have n3 : (n : Int) ≤ (s.size : Int) := by omega
 have n4 : (0 : Int) < (n : Int) := by omega
 have HD := Lh hd
 have HR := Lh hR
 have HRS := Lh hRs
 clear hd hR hRs hn0 hnl
 clear hs hc hB n1 n2
 go_enter Tryz.func111, Tryz.ntmps111
 go_wp2_with fail
 refine Sm (C1.out _) ?_
 go_wp2
 clear e0 e1 e2 e3 n4
 go_loopw [13, 14] (fun x i wr => ∃ j : Nat, i = .int .i64 j ∧ j ≤ n ∧ x = .int .i64 (amt (R.take j) : Nat) ∧ w = wr) (fun _ i _ => n - (intOf i).toNat)
 case atStart => exact ⟨0, rfl, Nat.zero_le _, rfl, rfl⟩
 case round =>
  obtain ⟨j, rfl, hj, rfl, rfl⟩ := hrel
  obtain ⟨N, hN⟩ : ∃ N, amt (R.take j) = N := ⟨_, rfl⟩
  have hNl : N < 10995116277760 := by rw [← hN]; exact Hf _ (fun c hc => HD.out c (List.mem_of_mem_take hc))
  have hNl2 : (N : Int) < 10995116277760 := by omega
  have HN := Lh hN
  rw [hN]
  clear hN
  by_cases hlt : j < n
  ·have l1 : (j : Int) < (n : Int) := by omega
   by_cases hst : N < 1099511627776
   ·obtain ⟨hx, hget⟩ := HRS.out j hlt
    obtain ⟨B9, hB9⟩ : ∃ B9 : Nat, (s[at' + 1 + j]'hx).toNat = B9 := ⟨_, rfl⟩
    rw [hB9] at hget
    have hdB := Bs.1 (HD.out B9 (List.mem_of_getElem? hget))
    have hstep : amt (R.take (j + 1)) = N * 10 + (B9 - 48) := by
     rw [List.take_add_one, hget]
     refine (F6 _ _).trans ?_
     rw [HN.out]
     exact if_pos hst
    obtain ⟨D, hD⟩ : ∃ D : Nat, B9 - 48 = D := ⟨_, rfl⟩
    obtain ⟨M, hM⟩ : ∃ M : Nat, N * 10 + D = M := ⟨_, rfl⟩
    have HS := Lh (show amt (R.take (j + 1)) = M from by rw [hstep, hD, hM])
    have l2 : (N : Int) < 1099511627776 := by omega
    have l3 : (0 : Int) ≤ (at' : Int) + 1 + (j : Int) := by omega
    have l4 : (at' : Int) + 1 + (j : Int) < (s.size : Int) := by omega
    have l5 : ((at' : Int) + 1 + (j : Int)).toNat = at' + 1 + j := by omega
    have l6 : ((s[at' + 1 + j]'hx).toNat : Int) = (B9 : Int) := by rw [hB9]
    have l7 : IntKind.u8.wrap ((B9 : Int) - 48) = (D : Int) := by rw [IntWalk.u8_in _ (by omega)]; omega
    have l8 : IntKind.i64.wrap (D : Int) = (D : Int) := IntWalk.i64_in _ (by omega)
    have l9 : (N : Int) * 10 + (D : Int) = (M : Int) := by omega
    have l10 : IntKind.i64.wrap ((N : Int) * 10) = (N : Int) * 10 := IntWalk.i64_in _ (by omega)
    have l11 : IntKind.i64.wrap ((N : Int) * 10 + (D : Int)) = (M : Int) := by rw [IntWalk.i64_in _ (by omega)]; omega
    clear hstep hD hM hdB hget hB9 hst l9 hNl
    go_wp2
    exact ⟨⟨j + 1, by go_num, by omega, by rw [HS.out], trivial⟩, by simp [intOf]; omega⟩
   ·have HZ := Lh (show amt R = N from by rw [Gv R j (by rw [HN.out]; omega), HN.out])
    have l2 : decide ((N : Int) < 1099511627776) = false := decide_eq_false (by omega)
    rw [HZ.out] at C2
    clear hst hNl
    go_wp2_with fail
    refine (C2.out _).mono ?_
    rintro e w' ⟨rfl, hb⟩
    go_wp2
    go_ret2
    exact ⟨rfl, hb⟩
  ·have HZ := Lh (show amt R = N from by rw [← HN.out, List.take_of_length_le (by rw [HR.out]; omega)])
   have l2 : ¬ (j : Int) < (n : Int) := by omega
   rw [HZ.out] at C2
   clear hlt hNl
   go_wp2_with fail
   refine (C2.out _).mono ?_
   rintro e w' ⟨rfl, hb⟩
   go_wp2
   go_ret2
   exact ⟨rfl, hb⟩
theorem Lm (s G : ByteArray) (at' F : Nat) (E : Int) (w : World) (hs : s.size ≤ 140737488355328)  (h : at' < s.size) (hc : (s[at']'h).toNat = 69) (g : at' + 1 < s.size) (hB : (s[at' + 1]'g).toNat = 45)
  (C1 : Hid (∀ W, Cq 110 #[.string s, .int .i64 ((at' : Int) + 1 + 1)] (.int .i64 0) W))
  (C2 : Hid (∀ W, Ct 141 #[.string G, .int .i64 E] (.float .f64 F) W)) :
  Ct 111 #[.string s, .int .i64 (at' : Nat), .string G, .int .i64 E] (.tuple #[.int .i64 (at' : Nat), .float .f64 F]) w := by
 have h1 : (s.size : Int) ≤ 140737488355328 := by omega
 have a1 : (0 : Int) ≤ (at' : Int) := by omega
 have a2 : (at' : Int) < (s.size : Int) := by omega
 have e0 : ((s[at']'h).toNat : Int) = 69 := by rw [hc]; rfl
 have b1 : (0 : Int) ≤ (at' : Int) + 1 := by omega
 have b2 : (at' : Int) + 1 < (s.size : Int) := by omega
 have b3 : ((at' : Int) + 1).toNat = at' + 1 := by omega
 have e1 : ((s[at' + 1]'g).toNat : Int) = 45 := by rw [hB]; rfl
 clear hs hc hB
 go_enter Tryz.func111, Tryz.ntmps111
 go_wp2_with fail
 refine Sm (C1.out _) ?_
 go_wp2_with fail
 refine (C2.out _).mono ?_
 rintro e w' ⟨rfl, hb⟩
 go_wp2
 go_ret2
 exact ⟨rfl, hb⟩
theorem Km (s G : ByteArray) (at' F : Nat) (E : Int) (w : World) (hs : s.size ≤ 140737488355328) (hE1 : -281474976710656 ≤ E) (hE2 : E ≤ 281474976710656) (n : Nat) (R : List Nat) (h : at' < s.size) (hc : (s[at']'h).toNat = 69) (g : at' + 1 < s.size) (hB : (s[at' + 1]'g).toNat = 45) (hn0 : 0 < n) (hR : R.length = n) (hd : ∀ c ∈ R, Bw c = true) (hRs : ∀ j, j < n → ∃ hj : at' + 2 + j < s.size, R[j]? = some (s[at' + 2 + j]'hj).toNat)
  (C1 : Hid (∀ W, Cq 110 #[.string s, .int .i64 ((at' : Int) + 1 + 1)] (.int .i64 (n : Nat)) W))
  (C2 : Hid (∀ W, Ct 141 #[.string G, .int .i64 (E + -(amt R : Nat))] (.float .f64 F) W)) :
  Ct 111 #[.string s, .int .i64 (at' : Nat), .string G, .int .i64 E] (.tuple #[.int .i64 ((at' : Int) + 1 + 1 + (n : Int)), .float .f64 F]) w := by
 have h1 : (s.size : Int) ≤ 140737488355328 := by omega
 have a1 : (0 : Int) ≤ (at' : Int) := by omega
 have a2 : (at' : Int) < (s.size : Int) := by omega
 have e0 : ((s[at']'h).toNat : Int) = 69 := by rw [hc]; rfl
 have b1 : (0 : Int) ≤ (at' : Int) + 1 := by omega
 have b2 : (at' : Int) + 1 < (s.size : Int) := by omega
 have b3 : ((at' : Int) + 1).toNat = at' + 1 := by omega
 have e1 : ((s[at' + 1]'g).toNat : Int) = 45 := by rw [hB]; rfl
 have hnl : n ≤ s.size := by
  obtain ⟨x, _⟩ := hRs (n - 1) (by omega)
  omega
 have n3 : (n : Int) ≤ (s.size : Int) := by omega
 have n4 : (0 : Int) < (n : Int) := by omega
 have HD := Lh hd
 have HR := Lh hR
 have HRS := Lh hRs
 clear hd hR hRs hn0 hnl
 clear hs hc hB
 go_enter Tryz.func111, Tryz.ntmps111
 go_wp2_with fail
 refine Sm (C1.out _) ?_
 go_wp2
 clear e0 e1 n4
 go_loopw [13, 14] (fun x i wr => ∃ j : Nat, i = .int .i64 j ∧ j ≤ n ∧ x = .int .i64 (amt (R.take j) : Nat) ∧ w = wr) (fun _ i _ => n - (intOf i).toNat)
 case atStart => exact ⟨0, rfl, Nat.zero_le _, rfl, rfl⟩
 case round =>
  obtain ⟨j, rfl, hj, rfl, rfl⟩ := hrel
  obtain ⟨N, hN⟩ : ∃ N, amt (R.take j) = N := ⟨_, rfl⟩
  have hNl : N < 10995116277760 := by rw [← hN]; exact Hf _ (fun c hc => HD.out c (List.mem_of_mem_take hc))
  have hNl2 : (N : Int) < 10995116277760 := by omega
  have HN := Lh hN
  rw [hN]
  clear hN
  by_cases hlt : j < n
  ·have l1 : (j : Int) < (n : Int) := by omega
   by_cases hst : N < 1099511627776
   ·obtain ⟨hx, hget⟩ := HRS.out j hlt
    obtain ⟨B9, hB9⟩ : ∃ B9 : Nat, (s[at' + 2 + j]'hx).toNat = B9 := ⟨_, rfl⟩
    rw [hB9] at hget
    have hdB := Bs.1 (HD.out B9 (List.mem_of_getElem? hget))
    have hstep : amt (R.take (j + 1)) = N * 10 + (B9 - 48) := by
     rw [List.take_add_one, hget]
     refine (F6 _ _).trans ?_
     rw [HN.out]
     exact if_pos hst
    obtain ⟨D, hD⟩ : ∃ D : Nat, B9 - 48 = D := ⟨_, rfl⟩
    obtain ⟨M, hM⟩ : ∃ M : Nat, N * 10 + D = M := ⟨_, rfl⟩
    have HS := Lh (show amt (R.take (j + 1)) = M from by rw [hstep, hD, hM])
    have l2 : (N : Int) < 1099511627776 := by omega
    have l3 : (0 : Int) ≤ (at' : Int) + 1 + 1 + (j : Int) := by omega
    have l4 : (at' : Int) + 1 + 1 + (j : Int) < (s.size : Int) := by omega
    have l5 : ((at' : Int) + 1 + 1 + (j : Int)).toNat = at' + 2 + j := by omega
    have l6 : ((s[at' + 2 + j]'hx).toNat : Int) = (B9 : Int) := by rw [hB9]
    have l7 : IntKind.u8.wrap ((B9 : Int) - 48) = (D : Int) := by rw [IntWalk.u8_in _ (by omega)]; omega
    have l8 : IntKind.i64.wrap (D : Int) = (D : Int) := IntWalk.i64_in _ (by omega)
    have l9 : (N : Int) * 10 + (D : Int) = (M : Int) := by omega
    have l10 : IntKind.i64.wrap ((N : Int) * 10) = (N : Int) * 10 := IntWalk.i64_in _ (by omega)
    have l11 : IntKind.i64.wrap ((N : Int) * 10 + (D : Int)) = (M : Int) := by rw [IntWalk.i64_in _ (by omega)]; omega
    clear hstep hD hM hdB hget hB9 hst l9 hNl
    go_wp2
    exact ⟨⟨j + 1, by go_num, by omega, by rw [HS.out], trivial⟩, by simp [intOf]; omega⟩
   ·have HZ := Lh (show amt R = N from by rw [Gv R j (by rw [HN.out]; omega), HN.out])
    have l2 : decide ((N : Int) < 1099511627776) = false := decide_eq_false (by omega)
    rw [HZ.out] at C2
    clear hst hNl
    go_wp2_with fail
    refine (C2.out _).mono ?_
    rintro e w' ⟨rfl, hb⟩
    go_wp2
    go_ret2
    exact ⟨rfl, hb⟩
  ·have HZ := Lh (show amt R = N from by rw [← HN.out, List.take_of_length_le (by rw [HR.out]; omega)])
   have l2 : ¬ (j : Int) < (n : Int) := by omega
   rw [HZ.out] at C2
   clear hlt hNl
   go_wp2_with fail
   refine (C2.out _).mono ?_
   rintro e w' ⟨rfl, hb⟩
   go_wp2
   go_ret2
   exact ⟨rfl, hb⟩
theorem Ms (s G : ByteArray) (at' F : Nat) (E : Int) (w : World) (hs : s.size ≤ 140737488355328)  (h : at' < s.size) (hc : (s[at']'h).toNat = 69) (g : at' + 1 < s.size) (hB : (s[at' + 1]'g).toNat = 43)
  (C1 : Hid (∀ W, Cq 110 #[.string s, .int .i64 ((at' : Int) + 1 + 1)] (.int .i64 0) W))
  (C2 : Hid (∀ W, Ct 141 #[.string G, .int .i64 E] (.float .f64 F) W)) :
  Ct 111 #[.string s, .int .i64 (at' : Nat), .string G, .int .i64 E] (.tuple #[.int .i64 (at' : Nat), .float .f64 F]) w := by
 have h1 : (s.size : Int) ≤ 140737488355328 := by omega
 have a1 : (0 : Int) ≤ (at' : Int) := by omega
 have a2 : (at' : Int) < (s.size : Int) := by omega
 have e0 : ((s[at']'h).toNat : Int) = 69 := by rw [hc]; rfl
 have b1 : (0 : Int) ≤ (at' : Int) + 1 := by omega
 have b2 : (at' : Int) + 1 < (s.size : Int) := by omega
 have b3 : ((at' : Int) + 1).toNat = at' + 1 := by omega
 have e1 : ((s[at' + 1]'g).toNat : Int) = 43 := by rw [hB]; rfl
 clear hs hc hB
 go_enter Tryz.func111, Tryz.ntmps111
 go_wp2_with fail
 refine Sm (C1.out _) ?_
 go_wp2_with fail
 refine (C2.out _).mono ?_
 rintro e w' ⟨rfl, hb⟩
 go_wp2
 go_ret2
 exact ⟨rfl, hb⟩
theorem Mt (s G : ByteArray) (at' F : Nat) (E : Int) (w : World) (hs : s.size ≤ 140737488355328) (hE1 : -281474976710656 ≤ E) (hE2 : E ≤ 281474976710656) (n : Nat) (R : List Nat) (h : at' < s.size) (hc : (s[at']'h).toNat = 69) (g : at' + 1 < s.size) (hB : (s[at' + 1]'g).toNat = 43) (hn0 : 0 < n) (hR : R.length = n) (hd : ∀ c ∈ R, Bw c = true) (hRs : ∀ j, j < n → ∃ hj : at' + 2 + j < s.size, R[j]? = some (s[at' + 2 + j]'hj).toNat)
  (C1 : Hid (∀ W, Cq 110 #[.string s, .int .i64 ((at' : Int) + 1 + 1)] (.int .i64 (n : Nat)) W))
  (C2 : Hid (∀ W, Ct 141 #[.string G, .int .i64 (E + (amt R : Nat))] (.float .f64 F) W)) :
  Ct 111 #[.string s, .int .i64 (at' : Nat), .string G, .int .i64 E] (.tuple #[.int .i64 ((at' : Int) + 1 + 1 + (n : Int)), .float .f64 F]) w := by
 have h1 : (s.size : Int) ≤ 140737488355328 := by omega
 have a1 : (0 : Int) ≤ (at' : Int) := by omega
 have a2 : (at' : Int) < (s.size : Int) := by omega
 have e0 : ((s[at']'h).toNat : Int) = 69 := by rw [hc]; rfl
 have b1 : (0 : Int) ≤ (at' : Int) + 1 := by omega
 have b2 : (at' : Int) + 1 < (s.size : Int) := by omega
 have b3 : ((at' : Int) + 1).toNat = at' + 1 := by omega
 have e1 : ((s[at' + 1]'g).toNat : Int) = 43 := by rw [hB]; rfl
 have hnl : n ≤ s.size := by
  obtain ⟨x, _⟩ := hRs (n - 1) (by omega)
  omega
 have n3 : (n : Int) ≤ (s.size : Int) := by omega
 have n4 : (0 : Int) < (n : Int) := by omega
 have HD := Lh hd
 have HR := Lh hR
 have HRS := Lh hRs
 clear hd hR hRs hn0 hnl
 clear hs hc hB
 go_enter Tryz.func111, Tryz.ntmps111
 go_wp2_with fail
 refine Sm (C1.out _) ?_
 go_wp2
 clear e0 e1 n4
 go_loopw [13, 14] (fun x i wr => ∃ j : Nat, i = .int .i64 j ∧ j ≤ n ∧ x = .int .i64 (amt (R.take j) : Nat) ∧ w = wr) (fun _ i _ => n - (intOf i).toNat)
 case atStart => exact ⟨0, rfl, Nat.zero_le _, rfl, rfl⟩
 case round =>
  obtain ⟨j, rfl, hj, rfl, rfl⟩ := hrel
  obtain ⟨N, hN⟩ : ∃ N, amt (R.take j) = N := ⟨_, rfl⟩
  have hNl : N < 10995116277760 := by rw [← hN]; exact Hf _ (fun c hc => HD.out c (List.mem_of_mem_take hc))
  have hNl2 : (N : Int) < 10995116277760 := by omega
  have HN := Lh hN
  rw [hN]
  clear hN
  by_cases hlt : j < n
  ·have l1 : (j : Int) < (n : Int) := by omega
   by_cases hst : N < 1099511627776
   ·obtain ⟨hx, hget⟩ := HRS.out j hlt
    obtain ⟨B9, hB9⟩ : ∃ B9 : Nat, (s[at' + 2 + j]'hx).toNat = B9 := ⟨_, rfl⟩
    rw [hB9] at hget
    have hdB := Bs.1 (HD.out B9 (List.mem_of_getElem? hget))
    have hstep : amt (R.take (j + 1)) = N * 10 + (B9 - 48) := by
     rw [List.take_add_one, hget]
     refine (F6 _ _).trans ?_
     rw [HN.out]
     exact if_pos hst
    obtain ⟨D, hD⟩ : ∃ D : Nat, B9 - 48 = D := ⟨_, rfl⟩
    obtain ⟨M, hM⟩ : ∃ M : Nat, N * 10 + D = M := ⟨_, rfl⟩
    have HS := Lh (show amt (R.take (j + 1)) = M from by rw [hstep, hD, hM])
    have l2 : (N : Int) < 1099511627776 := by omega
    have l3 : (0 : Int) ≤ (at' : Int) + 1 + 1 + (j : Int) := by omega
    have l4 : (at' : Int) + 1 + 1 + (j : Int) < (s.size : Int) := by omega
    have l5 : ((at' : Int) + 1 + 1 + (j : Int)).toNat = at' + 2 + j := by omega
    have l6 : ((s[at' + 2 + j]'hx).toNat : Int) = (B9 : Int) := by rw [hB9]
    have l7 : IntKind.u8.wrap ((B9 : Int) - 48) = (D : Int) := by rw [IntWalk.u8_in _ (by omega)]; omega
    have l8 : IntKind.i64.wrap (D : Int) = (D : Int) := IntWalk.i64_in _ (by omega)
    have l9 : (N : Int) * 10 + (D : Int) = (M : Int) := by omega
    have l10 : IntKind.i64.wrap ((N : Int) * 10) = (N : Int) * 10 := IntWalk.i64_in _ (by omega)
    have l11 : IntKind.i64.wrap ((N : Int) * 10 + (D : Int)) = (M : Int) := by rw [IntWalk.i64_in _ (by omega)]; omega
    clear hstep hD hM hdB hget hB9 hst l9 hNl
    go_wp2
    exact ⟨⟨j + 1, by go_num, by omega, by rw [HS.out], trivial⟩, by simp [intOf]; omega⟩
   ·have HZ := Lh (show amt R = N from by rw [Gv R j (by rw [HN.out]; omega), HN.out])
    have l2 : decide ((N : Int) < 1099511627776) = false := decide_eq_false (by omega)
    rw [HZ.out] at C2
    clear hst hNl
    go_wp2_with fail
    refine (C2.out _).mono ?_
    rintro e w' ⟨rfl, hb⟩
    go_wp2
    go_ret2
    exact ⟨rfl, hb⟩
  ·have HZ := Lh (show amt R = N from by rw [← HN.out, List.take_of_length_le (by rw [HR.out]; omega)])
   have l2 : ¬ (j : Int) < (n : Int) := by omega
   rw [HZ.out] at C2
   clear hlt hNl
   go_wp2_with fail
   refine (C2.out _).mono ?_
   rintro e w' ⟨rfl, hb⟩
   go_wp2
   go_ret2
   exact ⟨rfl, hb⟩
end
section
theorem Iq (s : ByteArray) (K j : Nat) (h : j < (Ag ((bl s).drop K)).length) : ∃ hj : K + j < s.size, (Ag ((bl s).drop K))[j]? = some (s[K + j]'hj).toNat := by
 have h1 := Cs ((bl s).drop K)
 rw [List.length_drop, By] at h1
 have hj : K + j < s.size := by omega
 refine ⟨hj, ?_⟩
 have h2 := congrArg (fun l : List Nat => l[j]?) (Mz ((bl s).drop K))
 simp only [List.getElem?_append_left h, List.getElem?_drop] at h2
 rw [h2, C0 s (K + j) hj]
theorem E7 {c : Nat} {r : List Nat} (h : Ag (Bj r) = []) : exR (c :: r) = c :: r ∧ exV (c :: r) = 0 := by
 have : Fu (c :: r) = false := by
  unfold Fu
  rw [List.tail_cons, h]
  simp
 unfold exR exV
 rw [this]
 exact ⟨rfl, rfl⟩
theorem Ig {c : Nat} {r : List Nat} (hc : c = 101 ∨ c = 69) (h : Ag (Bj r) ≠ []) : exR (c :: r) = Aj (Bj r) ∧ exV (c :: r) = if Eh r = true then -(amt (Ag (Bj r)) : Int) else (amt (Ag (Bj r)) : Int) := by
 have : Fu (c :: r) = true := by
  unfold Fu
  rw [List.tail_cons]
  cases hr : Ag (Bj r) with
  | nil => exact absurd hr h
  | cons a b => rcases hc with rfl | rfl <;> simp
 unfold exR exV
 rw [this]
 exact ⟨rfl, rfl⟩
theorem Afa {c : Nat} {r : List Nat} (h1 : c ≠ 101) (h2 : c ≠ 69) : exR (c :: r) = c :: r ∧ exV (c :: r) = 0 := by
 have : Fu (c :: r) = false := by
  unfold Fu
  simp [h1, h2]
 unfold exR exV
 rw [this]
 exact ⟨rfl, rfl⟩
theorem Fy {l : List Nat} {k c : Nat} {r : List Nat} (h : l.drop k = c :: r) : l.drop (k + 1) = r ∧ l[k]? = some c ∧ k < l.length := by
 have hk : k < l.length := by
  rcases Nat.lt_or_ge k l.length with h1 | h1
  ·exact h1
  ·rw [List.drop_of_length_le h1] at h
   cases h
 rw [Sc l k hk] at h
 injection h with h1 h2
 exact ⟨h2, by rw [List.getElem?_eq_getElem hk, h1], hk⟩
theorem Hm {s : ByteArray} {k c : Nat} (h : (bl s)[k]? = some c) : ∃ hk : k < s.size, (s[k]'hk).toNat = c := by
 have hk : k < s.size := by
  rw [← By s]
  exact (List.getElem?_eq_some_iff.1 h).1
 refine ⟨hk, ?_⟩
 rw [C0 s k hk] at h
 exact Option.some.inj h
theorem Gf (s : ByteArray) (k : Nat) (w : World) (hs : s.size ≤ 140737488355328) (hk : k ≤ 140737488355320) : Cq 110 #[.string s, .int .i64 ((k : Int) + 1)] (.int .i64 ((Ag ((bl s).drop (k + 1))).length : Nat)) w := by
 have := Nr s (k + 1) w hs (by omega)
 rw [show ((k + 1 : Nat) : Int) = (k : Int) + 1 by omega] at this
 exact this
theorem E4 (s : ByteArray) (k : Nat) (w : World) (hs : s.size ≤ 140737488355328) (hk : k ≤ 140737488355320) : Cq 110 #[.string s, .int .i64 ((k : Int) + 1 + 1)] (.int .i64 ((Ag ((bl s).drop (k + 2))).length : Nat)) w := by
 have := Nr s (k + 2) w hs (by omega)
 rw [show ((k + 2 : Nat) : Int) = (k : Int) + 1 + 1 by omega] at this
 exact this
theorem Zg (s : ByteArray) (at' : Nat) (f r : List Nat) (E : Int) (w : World) (hs : s.size ≤ 140737488355320) (hd : ∀ c ∈ f, Bw c = true) (hf : f.length ≤ 281474976710656) (hE1 : -281474976710656 ≤ E) (hE2 : E ≤ 281474976710656) (hT : (bl s).drop at' = 101 :: r) :
  Ct 111 #[.string s, .int .i64 (at' : Nat), .string (Ab f), .int .i64 E] (.tuple #[.int .i64 ((s.size - (exR (101 :: r)).length : Nat) : Nat), .float .f64 (Bp (num 10 f) (E + exV (101 :: r)))]) w := by
 have hbl := By s
 have hlen := congrArg List.length hT
 rw [List.length_drop, hbl, List.length_cons] at hlen
 obtain ⟨hr, hc, _⟩ := Fy hT
 obtain ⟨h, hB⟩ := Hm hc
 have hX := Zi (101 :: r)
 have C2 := fun W => Fp f (E + exV (101 :: r)) W hd hf (by omega)
 cases r with
 | nil =>
  have g : at' + 1 = s.size := by
   rw [List.length_nil] at hlen
   omega
  have hdr := hr
  have hun : Bj ([]) = [] := rfl
  by_cases h0 : Ag ([]) = []
  ·obtain ⟨x1, x2⟩ := E7 (c := 101) (r := []) (by rw [hun]; exact h0)
   rw [x2, Int.add_zero] at C2
   rw [x1, x2, Int.add_zero, show s.size - (101 :: []).length = at' by rw [List.length_cons]; omega]
   exact Kh (s := s) (G := Ab f) (at' := at') (E := E) (w := w) (hs := by omega) (h := h) (hc := hB) (g := g) (C1 := Lh (fun W => by
    have := Gf s at' W (by omega) (by omega)
    rw [hdr, h0] at this
    exact this)) (C2 := Lh C2)
  ·exact absurd rfl h0
 | cons d r2 =>
  rw [List.length_cons] at hlen
  obtain ⟨hr2, hc2, _⟩ := Fy hr
  obtain ⟨g, hB2⟩ := Hm hc2
  by_cases d1 : d = 45
  ·subst d1
   have hdr : (bl s).drop (at' + 2) = r2 := hr2
   have hsg : Eh (45 :: r2) = true := rfl
   have hlc : (45 :: r2).length = r2.length + 1 := rfl
   have hun : Bj (45 :: r2) = r2 := rfl
   by_cases h0 : Ag r2 = []
   ·obtain ⟨x1, x2⟩ := E7 (c := 101) (r := 45 :: r2) (by rw [hun]; exact h0)
    rw [x2, Int.add_zero] at C2
    rw [x1, x2, Int.add_zero, show s.size - (101 :: 45 :: r2).length = at' by rw [List.length_cons]; omega]
    exact Ju (s := s) (G := Ab f) (at' := at') (E := E) (w := w) (hs := by omega) (h := h) (hc := hB) (g := g) (hB := hB2) (C1 := Lh (fun W => by
     have := E4 s at' W (by omega) (by omega)
     rw [hdr, h0] at this
     exact this)) (C2 := Lh C2)
   ·obtain ⟨x1, x2⟩ := Ig (c := 101) (r := 45 :: r2) (by omega) (by rw [hun]; exact h0)
    rw [hsg] at x2
    rw [if_pos rfl] at x2
    rw [hun] at x1 x2
    rw [x2] at C2
    have hn := Cs r2
    have hn0 := List.length_pos_iff.2 h0
    rw [x1, x2, show ((s.size - (Aj r2).length : Nat) : Int) = (at' : Int) + 1 + 1 + ((Ag r2).length : Nat) by omega]
    exact J0 (s := s) (G := Ab f) (at' := at') (E := E) (w := w) (n := (Ag r2).length) (R := Ag r2) (hs := by omega) (hE1 := hE1) (hE2 := hE2) (h := h) (hc := hB) (g := g) (hB := hB2) (hn0 := hn0) (hR := rfl) (hd := Cg _) (hRs := fun j hj => by
     have := Iq s (at' + 2) j (by rw [hdr]; exact hj)
     rw [hdr] at this
     exact this) (C1 := Lh (fun W => by
     have := E4 s at' W (by omega) (by omega)
     rw [hdr] at this
     exact this)) (C2 := Lh C2)
  ·by_cases d2 : d = 43
   ·subst d2
    have hdr : (bl s).drop (at' + 2) = r2 := hr2
    have hsg : Eh (43 :: r2) = false := rfl
    have hlc : (43 :: r2).length = r2.length + 1 := rfl
    have hun : Bj (43 :: r2) = r2 := rfl
    by_cases h0 : Ag r2 = []
    ·obtain ⟨x1, x2⟩ := E7 (c := 101) (r := 43 :: r2) (by rw [hun]; exact h0)
     rw [x2, Int.add_zero] at C2
     rw [x1, x2, Int.add_zero, show s.size - (101 :: 43 :: r2).length = at' by rw [List.length_cons]; omega]
     exact Lb (s := s) (G := Ab f) (at' := at') (E := E) (w := w) (hs := by omega) (h := h) (hc := hB) (g := g) (hB := hB2) (C1 := Lh (fun W => by
      have := E4 s at' W (by omega) (by omega)
      rw [hdr, h0] at this
      exact this)) (C2 := Lh C2)
    ·obtain ⟨x1, x2⟩ := Ig (c := 101) (r := 43 :: r2) (by omega) (by rw [hun]; exact h0)
     rw [hsg] at x2
     rw [if_neg (by simp)] at x2
     rw [hun] at x1 x2
     rw [x2] at C2
     have hn := Cs r2
     have hn0 := List.length_pos_iff.2 h0
     rw [x1, x2, show ((s.size - (Aj r2).length : Nat) : Int) = (at' : Int) + 1 + 1 + ((Ag r2).length : Nat) by omega]
     exact Kx (s := s) (G := Ab f) (at' := at') (E := E) (w := w) (n := (Ag r2).length) (R := Ag r2) (hs := by omega) (hE1 := hE1) (hE2 := hE2) (h := h) (hc := hB) (g := g) (hB := hB2) (hn0 := hn0) (hR := rfl) (hd := Cg _) (hRs := fun j hj => by
      have := Iq s (at' + 2) j (by rw [hdr]; exact hj)
      rw [hdr] at this
      exact this) (C1 := Lh (fun W => by
      have := E4 s at' W (by omega) (by omega)
      rw [hdr] at this
      exact this)) (C2 := Lh C2)
   ·have hdr := hr
    have hsg : Eh (d :: r2) = false := by unfold Eh; rw [List.head?_cons, beq_eq_false_iff_ne]; exact fun e => d1 (Option.some.inj e)
    have hlc : (d :: r2).length = r2.length + 1 := rfl
    have hun : Bj (d :: r2) = d :: r2 := by unfold Bj; rw [if_neg (by simp [d1, d2])]
    by_cases h0 : Ag (d :: r2) = []
    ·obtain ⟨x1, x2⟩ := E7 (c := 101) (r := d :: r2) (by rw [hun]; exact h0)
     rw [x2, Int.add_zero] at C2
     rw [x1, x2, Int.add_zero, show s.size - (101 :: d :: r2).length = at' by rw [List.length_cons]; omega]
     exact Jk (s := s) (G := Ab f) (at' := at') (E := E) (w := w) (hs := by omega) (h := h) (hc := hB) (B := d) (g := g) (hB := hB2) (n1 := d1) (n2 := d2) (C1 := Lh (fun W => by
      have := Gf s at' W (by omega) (by omega)
      rw [hdr, h0] at this
      exact this)) (C2 := Lh C2)
    ·obtain ⟨x1, x2⟩ := Ig (c := 101) (r := d :: r2) (by omega) (by rw [hun]; exact h0)
     rw [hsg] at x2
     rw [if_neg (by simp)] at x2
     rw [hun] at x1 x2
     rw [x2] at C2
     have hn := Cs (d :: r2)
     have hn0 := List.length_pos_iff.2 h0
     rw [x1, x2, show ((s.size - (Aj (d :: r2)).length : Nat) : Int) = (at' : Int) + 1 + ((Ag (d :: r2)).length : Nat) by omega]
     exact Kb (s := s) (G := Ab f) (at' := at') (E := E) (w := w) (n := (Ag (d :: r2)).length) (R := Ag (d :: r2)) (hs := by omega) (hE1 := hE1) (hE2 := hE2) (h := h) (hc := hB) (B := d) (g := g) (hB := hB2) (n1 := d1) (n2 := d2) (hn0 := hn0) (hR := rfl) (hd := Cg _) (hRs := fun j hj => by
      have := Iq s (at' + 1) j (by rw [hdr]; exact hj)
      rw [hdr] at this
      exact this) (C1 := Lh (fun W => by
      have := Gf s at' W (by omega) (by omega)
      rw [hdr] at this
      exact this)) (C2 := Lh C2)
theorem Acu (s : ByteArray) (at' : Nat) (f r : List Nat) (E : Int) (w : World) (hs : s.size ≤ 140737488355320) (hd : ∀ c ∈ f, Bw c = true) (hf : f.length ≤ 281474976710656) (hE1 : -281474976710656 ≤ E) (hE2 : E ≤ 281474976710656) (hT : (bl s).drop at' = 69 :: r) :
  Ct 111 #[.string s, .int .i64 (at' : Nat), .string (Ab f), .int .i64 E] (.tuple #[.int .i64 ((s.size - (exR (69 :: r)).length : Nat) : Nat), .float .f64 (Bp (num 10 f) (E + exV (69 :: r)))]) w := by
 have hbl := By s
 have hlen := congrArg List.length hT
 rw [List.length_drop, hbl, List.length_cons] at hlen
 obtain ⟨hr, hc, _⟩ := Fy hT
 obtain ⟨h, hB⟩ := Hm hc
 have hX := Zi (69 :: r)
 have C2 := fun W => Fp f (E + exV (69 :: r)) W hd hf (by omega)
 cases r with
 | nil =>
  have g : at' + 1 = s.size := by
   rw [List.length_nil] at hlen
   omega
  have hdr := hr
  have hun : Bj ([]) = [] := rfl
  by_cases h0 : Ag ([]) = []
  ·obtain ⟨x1, x2⟩ := E7 (c := 69) (r := []) (by rw [hun]; exact h0)
   rw [x2, Int.add_zero] at C2
   rw [x1, x2, Int.add_zero, show s.size - (69 :: []).length = at' by rw [List.length_cons]; omega]
   exact Mc (s := s) (G := Ab f) (at' := at') (E := E) (w := w) (hs := by omega) (h := h) (hc := hB) (g := g) (C1 := Lh (fun W => by
    have := Gf s at' W (by omega) (by omega)
    rw [hdr, h0] at this
    exact this)) (C2 := Lh C2)
  ·exact absurd rfl h0
 | cons d r2 =>
  rw [List.length_cons] at hlen
  obtain ⟨hr2, hc2, _⟩ := Fy hr
  obtain ⟨g, hB2⟩ := Hm hc2
  by_cases d1 : d = 45
  ·subst d1
   have hdr : (bl s).drop (at' + 2) = r2 := hr2
   have hsg : Eh (45 :: r2) = true := rfl
   have hlc : (45 :: r2).length = r2.length + 1 := rfl
   have hun : Bj (45 :: r2) = r2 := rfl
   by_cases h0 : Ag r2 = []
   ·obtain ⟨x1, x2⟩ := E7 (c := 69) (r := 45 :: r2) (by rw [hun]; exact h0)
    rw [x2, Int.add_zero] at C2
    rw [x1, x2, Int.add_zero, show s.size - (69 :: 45 :: r2).length = at' by rw [List.length_cons]; omega]
    exact Lm (s := s) (G := Ab f) (at' := at') (E := E) (w := w) (hs := by omega) (h := h) (hc := hB) (g := g) (hB := hB2) (C1 := Lh (fun W => by
     have := E4 s at' W (by omega) (by omega)
     rw [hdr, h0] at this
     exact this)) (C2 := Lh C2)
   ·obtain ⟨x1, x2⟩ := Ig (c := 69) (r := 45 :: r2) (by omega) (by rw [hun]; exact h0)
    rw [hsg] at x2
    rw [if_pos rfl] at x2
    rw [hun] at x1 x2
    rw [x2] at C2
    have hn := Cs r2
    have hn0 := List.length_pos_iff.2 h0
    rw [x1, x2, show ((s.size - (Aj r2).length : Nat) : Int) = (at' : Int) + 1 + 1 + ((Ag r2).length : Nat) by omega]
    exact Km (s := s) (G := Ab f) (at' := at') (E := E) (w := w) (n := (Ag r2).length) (R := Ag r2) (hs := by omega) (hE1 := hE1) (hE2 := hE2) (h := h) (hc := hB) (g := g) (hB := hB2) (hn0 := hn0) (hR := rfl) (hd := Cg _) (hRs := fun j hj => by
     have := Iq s (at' + 2) j (by rw [hdr]; exact hj)
     rw [hdr] at this
     exact this) (C1 := Lh (fun W => by
     have := E4 s at' W (by omega) (by omega)
     rw [hdr] at this
     exact this)) (C2 := Lh C2)
  ·by_cases d2 : d = 43
   ·subst d2
    have hdr : (bl s).drop (at' + 2) = r2 := hr2
    have hsg : Eh (43 :: r2) = false := rfl
    have hlc : (43 :: r2).length = r2.length + 1 := rfl
    have hun : Bj (43 :: r2) = r2 := rfl
    by_cases h0 : Ag r2 = []
    ·obtain ⟨x1, x2⟩ := E7 (c := 69) (r := 43 :: r2) (by rw [hun]; exact h0)
     rw [x2, Int.add_zero] at C2
     rw [x1, x2, Int.add_zero, show s.size - (69 :: 43 :: r2).length = at' by rw [List.length_cons]; omega]
     exact Ms (s := s) (G := Ab f) (at' := at') (E := E) (w := w) (hs := by omega) (h := h) (hc := hB) (g := g) (hB := hB2) (C1 := Lh (fun W => by
      have := E4 s at' W (by omega) (by omega)
      rw [hdr, h0] at this
      exact this)) (C2 := Lh C2)
    ·obtain ⟨x1, x2⟩ := Ig (c := 69) (r := 43 :: r2) (by omega) (by rw [hun]; exact h0)
     rw [hsg] at x2
     rw [if_neg (by simp)] at x2
     rw [hun] at x1 x2
     rw [x2] at C2
     have hn := Cs r2
     have hn0 := List.length_pos_iff.2 h0
     rw [x1, x2, show ((s.size - (Aj r2).length : Nat) : Int) = (at' : Int) + 1 + 1 + ((Ag r2).length : Nat) by omega]
     exact Mt (s := s) (G := Ab f) (at' := at') (E := E) (w := w) (n := (Ag r2).length) (R := Ag r2) (hs := by omega) (hE1 := hE1) (hE2 := hE2) (h := h) (hc := hB) (g := g) (hB := hB2) (hn0 := hn0) (hR := rfl) (hd := Cg _) (hRs := fun j hj => by
      have := Iq s (at' + 2) j (by rw [hdr]; exact hj)
      rw [hdr] at this
      exact this) (C1 := Lh (fun W => by
      have := E4 s at' W (by omega) (by omega)
      rw [hdr] at this
      exact this)) (C2 := Lh C2)
   ·have hdr := hr
    have hsg : Eh (d :: r2) = false := by unfold Eh; rw [List.head?_cons, beq_eq_false_iff_ne]; exact fun e => d1 (Option.some.inj e)
    have hlc : (d :: r2).length = r2.length + 1 := rfl
    have hun : Bj (d :: r2) = d :: r2 := by unfold Bj; rw [if_neg (by simp [d1, d2])]
    by_cases h0 : Ag (d :: r2) = []
    ·obtain ⟨x1, x2⟩ := E7 (c := 69) (r := d :: r2) (by rw [hun]; exact h0)
     rw [x2, Int.add_zero] at C2
     rw [x1, x2, Int.add_zero, show s.size - (69 :: d :: r2).length = at' by rw [List.length_cons]; omega]
     exact Le (s := s) (G := Ab f) (at' := at') (E := E) (w := w) (hs := by omega) (h := h) (hc := hB) (B := d) (g := g) (hB := hB2) (n1 := d1) (n2 := d2) (C1 := Lh (fun W => by
      have := Gf s at' W (by omega) (by omega)
      rw [hdr, h0] at this
      exact this)) (C2 := Lh C2)
    ·obtain ⟨x1, x2⟩ := Ig (c := 69) (r := d :: r2) (by omega) (by rw [hun]; exact h0)
     rw [hsg] at x2
     rw [if_neg (by simp)] at x2
     rw [hun] at x1 x2
     rw [x2] at C2
     have hn := Cs (d :: r2)
     have hn0 := List.length_pos_iff.2 h0
     rw [x1, x2, show ((s.size - (Aj (d :: r2)).length : Nat) : Int) = (at' : Int) + 1 + ((Ag (d :: r2)).length : Nat) by omega]
     exact Kq (s := s) (G := Ab f) (at' := at') (E := E) (w := w) (n := (Ag (d :: r2)).length) (R := Ag (d :: r2)) (hs := by omega) (hE1 := hE1) (hE2 := hE2) (h := h) (hc := hB) (B := d) (g := g) (hB := hB2) (n1 := d1) (n2 := d2) (hn0 := hn0) (hR := rfl) (hd := Cg _) (hRs := fun j hj => by
      have := Iq s (at' + 1) j (by rw [hdr]; exact hj)
      rw [hdr] at this
      exact this) (C1 := Lh (fun W => by
      have := Gf s at' W (by omega) (by omega)
      rw [hdr] at this
      exact this)) (C2 := Lh C2)
theorem Afj (s : ByteArray) (at' : Nat) (f : List Nat) (E : Int) (w : World) (hs : s.size ≤ 140737488355320) (ha : at' ≤ s.size) (hd : ∀ c ∈ f, Bw c = true) (hf : f.length ≤ 281474976710656) (hE1 : -281474976710656 ≤ E) (hE2 : E ≤ 281474976710656) :
  Ct 111 #[.string s, .int .i64 (at' : Nat), .string (Ab f), .int .i64 E] (.tuple #[.int .i64 ((s.size - (exR ((bl s).drop at')).length : Nat) : Nat), .float .f64 (Bp (num 10 f) (E + exV ((bl s).drop at')))]) w := by
 have hbl := By s
 obtain ⟨T, hT⟩ : ∃ T, (bl s).drop at' = T := ⟨_, rfl⟩
 have hlen := congrArg List.length hT
 rw [List.length_drop, hbl] at hlen
 rw [hT]
 cases T with
 | nil =>
  rw [List.length_nil] at hlen
  have e1 : exV [] = 0 := rfl
  have e2 : exR [] = [] := rfl
  rw [e1, e2, List.length_nil, Int.add_zero, show s.size - 0 = at' by omega]
  exact Aes (s := s) (G := Ab f) (at' := at') (E := E) (w := w) (hs := by omega) (ha := by omega) (C2 := Lh (fun W => Fp f E W hd hf (by omega)))
 | cons c r =>
  by_cases h1 : c = 101
  ·subst h1
   exact Zg s at' f r E w hs hd hf hE1 hE2 hT
  ·by_cases h2 : c = 69
   ·subst h2
    exact Acu s at' f r E w hs hd hf hE1 hE2 hT
   ·obtain ⟨x1, x2⟩ := Afa (r := r) h1 h2
    obtain ⟨_, hc, _⟩ := Fy hT
    obtain ⟨h, hB⟩ := Hm hc
    rw [List.length_cons] at hlen
    rw [x1, x2, Int.add_zero, show s.size - (c :: r).length = at' by rw [List.length_cons]; omega]
    exact Xx (s := s) (G := Ab f) (at' := at') (E := E) (w := w) (B := c) (hs := by omega) (h := h) (hB := hB) (n1 := h1) (n2 := h2) (C2 := Lh (fun W => Fp f E W hd hf (by omega)))
end
section
theorem Yn (s : ByteArray) (a : Nat) (w : World) (_hs : s.size ≤ 140737488355328) (g : a = s.size) (ha0 : a = 0)
    (C1 : Hid (∀ W, Cq 110 #[.string s, .int .i64 0] (.int .i64 (a : Nat)) W))
 :
    Ct 78 #[.string s] (.tuple #[.int .i64 0, .float .f64 0]) w := by
  have a1 : (0 : Int) ≤ (a : Int) := by omega
  have a2 : ¬ (a : Int) < (s.size : Int) := by omega
  have a3 : (a : Int) ≤ (s.size : Int) := by omega
  have e2 : ((a : Int) == 0) = true := by rw [beq_iff_eq]; omega
  clear ha0 g
  go_enter Tryz.func78, Tryz.ntmps78
  go_wp2_with fail
  refine Sm (C1.out _) ?_
  go_wp2
  go_ret2
  exact ⟨rfl, Below.refl _ _⟩
theorem Vv (s : ByteArray) (a F : Nat) (p : Int) (w : World) (hs : s.size ≤ 140737488355328) (g : a = s.size) (ha0 : 0 < a)
  (C1 : Hid (∀ W, Cq 110 #[.string s, .int .i64 0] (.int .i64 (a : Nat)) W))
  (C4 : Hid (∀ W, Ct 111 #[.string s, .int .i64 ((a : Nat)), .string (s.extract 0 a), .int .i64 (0)] (.tuple #[.int .i64 p, .float .f64 F]) W)) :
  Ct 78 #[.string s] (.tuple #[.int .i64 p, .float .f64 F]) w := by
 have h1 : (s.size : Int) ≤ 140737488355328 := by omega
 have a1 : (0 : Int) ≤ (a : Int) := by omega
 have a2 : ¬ (a : Int) < (s.size : Int) := by omega
 have a3 : (a : Int) ≤ (s.size : Int) := by omega
 have e2 : ((a : Int) == 0) = false := by rw [beq_eq_false_iff_ne]; omega
 clear hs ha0 g
 go_enter Tryz.func78, Tryz.ntmps78
 go_wp2_with fail
 refine Sm (C1.out _) ?_
 go_wp2_with fail
 refine (C4.out _).mono ?_
 rintro e w' ⟨rfl, hb⟩
 go_wp2
 go_ret2
 exact ⟨rfl, hb⟩
theorem Qm (s : ByteArray) (a B : Nat) (w : World) (hs : s.size ≤ 140737488355328) (g : a < s.size) (hB : (s[a]'g).toNat = B) (n1 : B ≠ 46) (ha0 : a = 0)
    (C1 : Hid (∀ W, Cq 110 #[.string s, .int .i64 0] (.int .i64 (a : Nat)) W))
 :
    Ct 78 #[.string s] (.tuple #[.int .i64 0, .float .f64 0]) w := by
  have h1 : (s.size : Int) ≤ 140737488355328 := by omega
  have a1 : (0 : Int) ≤ (a : Int) := by omega
  have a2 : (a : Int) < (s.size : Int) := by omega
  have a3 : (a : Int) ≤ (s.size : Int) := by omega
  have e0 : ((s[a]'g).toNat : Int) = (B : Int) := by rw [hB]
  have e1 : ((B : Int) == 46) = false := by rw [beq_eq_false_iff_ne]; omega
  have e2 : ((a : Int) == 0) = true := by rw [beq_iff_eq]; omega
  clear hs ha0 hB n1
  go_enter Tryz.func78, Tryz.ntmps78
  go_wp2_with fail
  refine Sm (C1.out _) ?_
  go_wp2
  go_ret2
  exact ⟨rfl, Below.refl _ _⟩
theorem P9 (s : ByteArray) (a B F : Nat) (p : Int) (w : World) (hs : s.size ≤ 140737488355328) (g : a < s.size) (hB : (s[a]'g).toNat = B) (n1 : B ≠ 46) (ha0 : 0 < a)
  (C1 : Hid (∀ W, Cq 110 #[.string s, .int .i64 0] (.int .i64 (a : Nat)) W))
  (C4 : Hid (∀ W, Ct 111 #[.string s, .int .i64 ((a : Nat)), .string (s.extract 0 a), .int .i64 (0)] (.tuple #[.int .i64 p, .float .f64 F]) W)) :
  Ct 78 #[.string s] (.tuple #[.int .i64 p, .float .f64 F]) w := by
 have h1 : (s.size : Int) ≤ 140737488355328 := by omega
 have a1 : (0 : Int) ≤ (a : Int) := by omega
 have a2 : (a : Int) < (s.size : Int) := by omega
 have a3 : (a : Int) ≤ (s.size : Int) := by omega
 have e0 : ((s[a]'g).toNat : Int) = (B : Int) := by rw [hB]
 have e1 : ((B : Int) == 46) = false := by rw [beq_eq_false_iff_ne]; omega
 have e2 : ((a : Int) == 0) = false := by rw [beq_eq_false_iff_ne]; omega
 clear hs ha0 hB n1
 go_enter Tryz.func78, Tryz.ntmps78
 go_wp2_with fail
 refine Sm (C1.out _) ?_
 go_wp2_with fail
 refine (C4.out _).mono ?_
 rintro e w' ⟨rfl, hb⟩
 go_wp2
 go_ret2
 exact ⟨rfl, hb⟩
theorem Yg (s : ByteArray) (a b : Nat) (w : World) (hs : s.size ≤ 140737488355328) (g : a < s.size) (hB : (s[a]'g).toNat = 46) (ha0 : a = 0) (hb0 : b = 0) (hb : a + 1 + b ≤ s.size)
    (C1 : Hid (∀ W, Cq 110 #[.string s, .int .i64 0] (.int .i64 (a : Nat)) W))
    (C3 : Hid (∀ W, Cq 110 #[.string s, .int .i64 ((a : Int) + 1)] (.int .i64 (b : Nat)) W))
 :
    Ct 78 #[.string s] (.tuple #[.int .i64 0, .float .f64 0]) w := by
  have h1 : (s.size : Int) ≤ 140737488355328 := by omega
  have a1 : (0 : Int) ≤ (a : Int) := by omega
  have a2 : (a : Int) < (s.size : Int) := by omega
  have a3 : (a : Int) ≤ (s.size : Int) := by omega
  have e0 : ((s[a]'g).toNat : Int) = 46 := by rw [hB]; rfl
  have b1 : (a : Int) + 1 + (b : Int) ≤ (s.size : Int) := by omega
  have b2 : (0 : Int) ≤ (b : Int) := by omega
  have b3 : ((a : Int) + 1).toNat = a + 1 := by omega
  have b4 : ((a : Int) + 1 + (b : Int)).toNat = a + 1 + b := by omega
  have e2 : ¬ (0 : Int) < (a : Int) + (b : Int) := by omega
  have e3 : ((a : Int) == 0) = true := by rw [beq_iff_eq]; omega
  clear hs hB hb ha0 hb0
  go_enter Tryz.func78, Tryz.ntmps78
  go_wp2_with fail
  refine Sm (C1.out _) ?_
  go_wp2_with fail
  refine Sm (C3.out _) ?_
  go_wp2
  go_ret2
  exact ⟨rfl, Below.refl _ _⟩
theorem Vc (s : ByteArray) (a b F : Nat) (p : Int) (w : World) (hs : s.size ≤ 140737488355328) (g : a < s.size) (hB : (s[a]'g).toNat = 46) (h0 : 0 < a + b) (hb : a + 1 + b ≤ s.size)
  (C1 : Hid (∀ W, Cq 110 #[.string s, .int .i64 0] (.int .i64 (a : Nat)) W))
  (C3 : Hid (∀ W, Cq 110 #[.string s, .int .i64 ((a : Int) + 1)] (.int .i64 (b : Nat)) W))
  (C4 : Hid (∀ W, Ct 111 #[.string s, .int .i64 ((a : Int) + 1 + (b : Int)), .string (s.extract 0 a ++ s.extract (a + 1) (a + 1 + b)), .int .i64 (-(b : Int))] (.tuple #[.int .i64 p, .float .f64 F]) W)) :
  Ct 78 #[.string s] (.tuple #[.int .i64 p, .float .f64 F]) w := by
 have h1 : (s.size : Int) ≤ 140737488355328 := by omega
 have a1 : (0 : Int) ≤ (a : Int) := by omega
 have a2 : (a : Int) < (s.size : Int) := by omega
 have a3 : (a : Int) ≤ (s.size : Int) := by omega
 have e0 : ((s[a]'g).toNat : Int) = 46 := by rw [hB]; rfl
 have b1 : (a : Int) + 1 + (b : Int) ≤ (s.size : Int) := by omega
 have b2 : (0 : Int) ≤ (b : Int) := by omega
 have b3 : ((a : Int) + 1).toNat = a + 1 := by omega
 have b4 : ((a : Int) + 1 + (b : Int)).toNat = a + 1 + b := by omega
 have e2 : (0 : Int) < (a : Int) + (b : Int) := by omega
 have q3 : ¬ 9223372036854775807 < (s.extract 0 a).size + (s.extract (a + 1) (a + 1 + b)).size := by
  rw [ByteArray.size_extract, ByteArray.size_extract]
  omega
 clear hs hB hb h0
 go_enter Tryz.func78, Tryz.ntmps78
 go_wp2_with fail
 refine Sm (C1.out _) ?_
 go_wp2_with fail
 refine Sm (C3.out _) ?_
 go_wp2_with fail
 refine (C4.out _).mono ?_
 rintro e w' ⟨rfl, hb⟩
 go_wp2
 go_ret2
 exact ⟨rfl, hb⟩
theorem Vr (l : List Nat) : l.drop (Ag l).length = Aj l := by
 conv => lhs; arg 2; rw [← Mz l]
 rw [List.drop_left]
theorem Nk (l : List Nat) : l.take (Ag l).length = Ag l := by
 conv => lhs; arg 2; rw [← Mz l]
 rw [List.take_left]
theorem Acq (s : ByteArray) (w : World) (hs : s.size ≤ 140737488355328) : Cq 110 #[.string s, .int .i64 0] (.int .i64 ((Ag (bl s)).length : Nat)) w := by
 have := Nr s 0 w hs (by omega)
 rw [List.drop_zero] at this
 exact this
theorem Ak3 (s : ByteArray) (i n : Nat) (h : i + n ≤ s.size) : s.extract i (i + n) = Ab (((bl s).drop i).take n) := by
 have h1 : (s.extract i s.size).extract 0 n = s.extract i (i + n) := by
  rw [ByteArray.extract_extract, Nat.add_zero, Nat.min_eq_left (by omega)]
 rw [← h1, Ge, Fb, Ak (fun c hc => J9 s c (List.mem_of_mem_drop hc))]
def lgN (l : List Nat) : Nat := if dB l = true then l.length - (dR l).length else 0
def lgV (l : List Nat) : Nat := if dB l = true then dV l else 0
theorem Kd (s : ByteArray) (w : World) (hs : s.size ≤ 140737488355320) :
  Ct 78 #[.string s] (.tuple #[.int .i64 (lgN (bl s) : Nat), .float .f64 (lgV (bl s))]) w := by
 obtain ⟨l, hl⟩ : ∃ l, bl s = l := ⟨_, rfl⟩
 have hbl := By s
 have hlt := J9 s
 have C1 := Lh (fun W => Acq s W (by omega))
 have C4 := fun at' f E W ha hd hf h1 h2 => Afj s at' f E W hs ha hd hf h1 h2
 have C3 := fun k W hk => Gf s k W (by omega) hk
 have hra := Cs l
 have hdr := Vr l
 have htk := Nk l
 have hex : s.extract 0 (Ag l).length = Ab (Ag l) := by rw [Fb, hl, htk]
 have hmid := fun i n h => Ak3 s i n h
 rw [hl] at C1 hbl hlt C4 C3 hmid ⊢
 have r256 : ∀ c ∈ Ag l, Bw c = true := Cg l
 have nodot : Ke (Aj l) = false → dF l = [] ∧ dT l = Aj l := fun h => by
  unfold dF dT
  rw [h]
  exact ⟨rfl, rfl⟩
 have zero : dW l = [] → dF l = [] → dB l = false := fun h1 h2 => by
  unfold dB
  rw [h1, h2]
  rfl
 have pos1 : dW l ≠ [] → dB l = true := fun h => by
  unfold dB
  cases hw : dW l with
  | nil => exact absurd hw h
  | cons => rfl
 have pos2 : dF l ≠ [] → dB l = true := fun h => by
  unfold dB
  cases hw : dF l with
  | nil => exact absurd hw h
  | cons => simp
 obtain ⟨A, hA⟩ : ∃ A, Aj l = A := ⟨_, rfl⟩
 have T0 := fun (h : Ke (Aj l) = false) (h2 : dW l ≠ []) => (by
  obtain ⟨e1, e2⟩ := nodot h
  have := fun W => C4 (Ag l).length (Ag l) 0 W (by omega) r256 (by omega) (by omega) (by omega)
  have ev : dV l = Bp (num 10 (Ag l)) (0 + exV (Aj l)) := by
   unfold dV dX
   rw [e1, e2, List.append_nil, List.length_nil]
   exact congrArg (Bp _) (by omega)
  have en : l.length - (dR l).length = s.size - (exR (Aj l)).length := by unfold dR; rw [e2, hbl]
  rw [hdr, ← ev, ← en] at this
  unfold lgN lgV
  rw [if_pos (pos1 h2), if_pos (pos1 h2), hex]
  exact this : ∀ W, Ct 111 #[.string s, .int .i64 ((Ag l).length : Nat), .string (s.extract 0 (Ag l).length), .int .i64 0] (.tuple #[.int .i64 (lgN l : Nat), .float .f64 (lgV l)]) W)
 have Z0 := fun (h : dB l = false) => (by
  unfold lgN lgV
  rw [h]
  exact ⟨rfl, rfl⟩ : lgN l = 0 ∧ lgV l = 0)
 cases A with
 | nil =>
  have hn : (Ag l).length = s.size := by rw [hA, List.length_nil] at hra; omega
  have hdot : Ke (Aj l) = false := by rw [hA]; rfl
  by_cases h0 : dW l = []
  ·obtain ⟨z1, z2⟩ := Z0 (zero h0 (nodot hdot).1)
   rw [z1, z2]
   exact Yn (s := s) (a := (Ag l).length) (w := w) (_hs := by omega) (g := hn) (ha0 := by have : Ag l = [] := h0; rw [this]; rfl) (C1 := C1)
  ·exact Vv (s := s) (a := (Ag l).length) (w := w) (hs := by omega) (g := hn) (ha0 := List.length_pos_iff.2 h0) (C1 := C1) (C4 := Lh (T0 hdot h0))
 | cons B t =>
  rw [hA] at hdr
  obtain ⟨hr, hc, _⟩ := Fy hdr
  obtain ⟨g, hB⟩ := Hm (s := s) (by rw [hl]; exact hc)
  by_cases hb : B = 46
  ·subst hb
   have hF : dF l = Ag t := by unfold dF; rw [hA]; rfl
   have hT : dT l = Aj t := by unfold dT; rw [hA]; rfl
   have hrt := Cs t
   have hla := congrArg List.length hdr
   rw [List.length_drop, List.length_cons] at hla
   have C3' := Lh (fun W => C3 (Ag l).length W (by omega))
   rw [hr] at C3'
   by_cases h0 : 0 < (Ag l).length + (Ag t).length
   ·have hB2 : dB l = true := by
     by_cases h1 : dW l = []
     ·refine pos2 (fun e => ?_)
      rw [hF] at e
      have h2 : Ag l = [] := h1
      rw [h2, e] at h0
      exact absurd h0 (by simp)
     ·exact pos1 h1
    have T1 := fun W => C4 ((Ag l).length + 1 + (Ag t).length) (Ag l ++ Ag t) (-((Ag t).length : Int)) W (by omega) (fun c hc => by
     rcases List.mem_append.1 hc with h | h
     ·exact Cg _ c h
     ·exact Cg _ c h) (by rw [List.length_append]; omega) (by omega) (by omega)
    have hd2 : l.drop ((Ag l).length + 1 + (Ag t).length) = Aj t := by rw [← List.drop_drop, hr, Vr]
    have ev : dV l = Bp (num 10 (Ag l ++ Ag t)) (-((Ag t).length : Int) + exV (Aj t)) := by
     unfold dV dX dW
     rw [hF, hT]
     exact congrArg (Bp _) (by omega)
    have en : l.length - (dR l).length = s.size - (exR (Aj t)).length := by unfold dR; rw [hT, hbl]
    have hex2 : s.extract 0 (Ag l).length ++ s.extract ((Ag l).length + 1) ((Ag l).length + 1 + (Ag t).length) = Ab (Ag l ++ Ag t) := by
     rw [hex, hmid _ _ (by omega), hr, Nk, Bc]
    rw [hd2, ← ev, ← en, ← hex2, show (((Ag l).length + 1 + (Ag t).length : Nat) : Int) = ((Ag l).length : Int) + 1 + ((Ag t).length : Int) by omega] at T1
    unfold lgN lgV
    rw [if_pos hB2, if_pos hB2]
    exact Vc (s := s) (a := (Ag l).length) (b := (Ag t).length) (w := w) (hs := by omega) (g := g) (hB := hB) (h0 := h0) (hb := by omega) (C1 := C1) (C3 := C3') (C4 := Lh T1)
   ·have h1 : Ag l = [] := List.length_eq_zero_iff.1 (by omega)
    have h2 : Ag t = [] := List.length_eq_zero_iff.1 (by omega)
    obtain ⟨z1, z2⟩ := Z0 (zero h1 (by rw [hF, h2]))
    rw [z1, z2]
    exact Yg (s := s) (a := (Ag l).length) (b := (Ag t).length) (w := w) (hs := by omega) (g := g) (hB := hB) (ha0 := by rw [h1]; rfl) (hb0 := by rw [h2]; rfl) (hb := by omega) (C1 := C1) (C3 := C3')
  ·have hdot : Ke (Aj l) = false := by rw [hA]; unfold Ke; rw [List.head?_cons, beq_eq_false_iff_ne]; exact fun e => hb (Option.some.inj e)
   by_cases h0 : dW l = []
   ·obtain ⟨z1, z2⟩ := Z0 (zero h0 (nodot hdot).1)
    rw [z1, z2]
    exact Qm (s := s) (a := (Ag l).length) (B := B) (w := w) (hs := by omega) (g := g) (hB := hB) (n1 := hb) (ha0 := by have : Ag l = [] := h0; rw [this]; rfl) (C1 := C1)
   ·have T2 := T0 hdot h0
    exact P9 (s := s) (a := (Ag l).length) (B := B) (w := w) (hs := by omega) (g := g) (hB := hB) (n1 := hb) (ha0 := List.length_pos_iff.2 h0) (C1 := C1) (C4 := Lh T2)
end
section
theorem Aix (s : ByteArray) (K N r : Nat) (w : World) (hs : s.size ≤ 281474976710656) (hK : K ≤ s.size) (hN : s.size - K = N)
  (Z1 : Hid (∀ k (h : k < s.size), k < K → (s[k]'h).toNat = 48)) (Z2 : Hid (∀ h : K < s.size, (s[K]'h).toNat ≠ 48)) (hN0 : 1100 < N) :
  Ct 109 #[.string s, .int .i64 r] (.float .f64 9218868437227405312) w := by
 have h1 : (s.size : Int) ≤ 281474976710656 := by omega
 have HN := Lh hN
 have HK := Lh hK
 have HN0 := Lh hN0
 have C3 := Lh (fun W => Dr W)
 clear hs hK hN hN0
 go_enter Tryz.func109, Tryz.ntmps109
 go_wp2
 go_loopw [5] (fun i wr => ∃ k : Nat, i = .int .i64 k ∧ k ≤ K ∧ w = wr) (fun i _ => K - (intOf i).toNat)
 case atStart => exact ⟨0, rfl, Nat.zero_le _, rfl⟩
 case round =>
  obtain ⟨k, rfl, hk, rfl⟩ := hrel
  have hk2 := HK.out
  by_cases hlt : k < K
  ·have hks : k < s.size := by omega
   have e0 : ((s[k]'hks).toNat : Int) = 48 := by rw [Z1.out k hks hlt]; rfl
   have a2 : (k : Int) < (s.size : Int) := by omega
   have a1 : (0 : Int) ≤ (k : Int) := by omega
   clear hk2
   go_wp2
   exact ⟨⟨k + 1, by go_num, by omega, trivial⟩, by simp [intOf]; omega⟩
  ·obtain rfl : k = K := by omega
   have hz : k < s.size := by have := HN.out; have := HN0.out; omega
   obtain ⟨B, hB⟩ : ∃ B : Nat, (s[k]'hz).toNat = B := ⟨_, rfl⟩
   have hB48 := Z2.out hz
   rw [hB] at hB48
   have e0 : ((s[k]'hz).toNat : Int) = (B : Int) := by rw [hB]
   have e1 : ((B : Int) == 48) = false := by rw [beq_eq_false_iff_ne]; omega
   have a2 : (k : Int) < (s.size : Int) := by omega
   have a1 : (0 : Int) ≤ (k : Int) := by omega
   have a3 : (k : Int) ≤ (s.size : Int) := by omega
   have a4 : ((s.size - k : Nat) : Int) = (N : Int) := by rw [HN.out]
   have t1 : decide ((1100 : Int) < (N : Int)) = true := decide_eq_true (by have := HN0.out; omega)
   clear hk2 hB hB48
   go_wp2_with fail
   refine Sm (C3.out _) ?_
   go_wp2
   go_ret
   exact ⟨rfl, Below.refl _ _⟩
theorem Af2 (s g : ByteArray) (K N r F : Nat) (w : World) (hs : s.size ≤ 281474976710656) (hK : K ≤ s.size) (hN : s.size - K = N)
  (Z1 : Hid (∀ k (h : k < s.size), k < K → (s[k]'h).toNat = 48)) (Z2 : Hid (∀ h : K < s.size, (s[K]'h).toNat ≠ 48)) (hN0 : ¬ 1100 < N)
  (hg : s.extract K s.size = g) (hgN : g.size = N) (h2 : 2 ≤ r) (h36 : r ≤ 36) (hd : ∀ i, i < g.size → dgt (btn g i) < r)
  (HL : Hid (∀ o, o ≤ N → (wds (pv r (fun i => dgt (btn g i)) o)).length ≤ 940))
  (C7 : Hid (∀ W A n c, NV W A n c (pv r (fun i => dgt (btn g i)) N) → Ct 139 #[.slice A n c, .int .i64 0] (.float .f64 F) W)) :
  Ct 109 #[.string s, .int .i64 r] (.float .f64 F) w := by
 have h1 : (s.size : Int) ≤ 281474976710656 := by omega
 have HN := Lh hN
 have HK := Lh hK
 have HN0 := Lh hN0
 have HG := Lh hg
 have HGN := Lh hgN
 have HD := Lh hd
 have H2 := Lh h2
 have H36 := Lh h36
 have kr : IntKind.u32.wrap (r : Int) = (r : Int) := IntWalk.u32_in _ (by omega)
 clear hs hK hN hN0 hg hgN hd h2 h36
 go_enter Tryz.func109, Tryz.ntmps109
 go_wp2
 go_loopw [5] (fun i wr => ∃ k : Nat, i = .int .i64 k ∧ k ≤ K ∧ w = wr) (fun i _ => K - (intOf i).toNat)
 case atStart => exact ⟨0, rfl, Nat.zero_le _, rfl⟩
 case round =>
  obtain ⟨k, rfl, hk, rfl⟩ := hrel
  have hk2 := HK.out
  by_cases hlt : k < K
  ·have hks : k < s.size := by omega
   have e0 : ((s[k]'hks).toNat : Int) = 48 := by rw [Z1.out k hks hlt]; rfl
   have a2 : (k : Int) < (s.size : Int) := by omega
   have a1 : (0 : Int) ≤ (k : Int) := by omega
   clear hk2
   go_wp2
   exact ⟨⟨k + 1, by go_num, by omega, trivial⟩, by simp [intOf]; omega⟩
  ·obtain rfl : k = K := by omega
   have a1 : (0 : Int) ≤ (k : Int) := by omega
   have a3 : (k : Int) ≤ (s.size : Int) := by omega
   have hext : s.extract k s.size = g := HG.out
   have b4 : (g.size : Int) = (N : Int) := by rw [HGN.out]
   have t1 : decide ((1100 : Int) < (N : Int)) = false := decide_eq_false (by have := HN0.out; omega)
   have main : ∀ Q : Prop, Q → Q := fun _ h => h
   by_cases hz : k < s.size
   ·obtain ⟨B, hB⟩ : ∃ B : Nat, (s[k]'hz).toNat = B := ⟨_, rfl⟩
    have hB48 := Z2.out hz
    rw [hB] at hB48
    have e0 : ((s[k]'hz).toNat : Int) = (B : Int) := by rw [hB]
    have e1 : ((B : Int) == 48) = false := by rw [beq_eq_false_iff_ne]; omega
    have a2 : (k : Int) < (s.size : Int) := by omega
    clear hk2 hB hB48 main
    go_wp2
    clear a1 a2 a3 e0 e1 hext b4 t1 hz
    go_loopw [6, 7] (fun av iv wr => ∃ o : Nat, iv = .int .i64 (o : Nat) ∧ o ≤ N ∧ Hid (Sl wr wr.heap.size av (wds (pv r (fun i => dgt (btn g i)) o))) ∧ Below w.heap.size w wr) (fun _ iv _ => N - (intOf iv).toNat)
    case atStart => exact ⟨0, rfl, Nat.zero_le _, Lh (Sl.nil _ _ _), Below.refl _ _⟩
    case round =>
     obtain ⟨o, rfl, ho, HS, hbw⟩ := hrel
     have hle := HL.out o ho
     obtain ⟨V, hV⟩ : ∃ V, pv r (fun i => dgt (btn g i)) o = V := ⟨_, rfl⟩
     rw [hV] at HS hle
     have HV := Lh hV
     obtain ⟨A0, c0, rfl, hc0, hr0⟩ := HS.out
     obtain ⟨L0, hL0⟩ : ∃ L, (wds V).length = L := ⟨_, rfl⟩
     rw [hL0] at hc0 hle ⊢
     by_cases hlt : o < N
     ·have hgo : o < g.size := by rw [HGN.out]; exact hlt
      have hd := HD.out o hgo
      have hb4 : (g.size : Int) = (N : Int) := by rw [HGN.out]
      have hx1 : (o : Int) < (N : Int) := by omega
      have hx2 : (o : Int) < (g.size : Int) := by omega
      have hx3 : (0 : Int) ≤ (o : Int) := by omega
      have hN1 : (N : Int) ≤ 1100 := by have := HN0.out; omega
      have C1 := Lh (fun W => show Cp 108 #[.int .u8 ((g[o]'hgo).toNat : Nat)] W fun e w' => e = .returned (.int .i64 (dgt (btn g o) : Nat)) ∧ W = w' from by
       rw [Dp g o hgo, ← H7 H36.out hd]; exact Cy _ W (Fi g o))
      have hpv : pv r (fun i => dgt (btn g i)) (o + 1) = V * r + dgt (btn g o) := by rw [← hV]; rfl
      have hd36 := Og (btn g o)
      obtain ⟨d, hde⟩ : ∃ d, dgt (btn g o) = d := ⟨_, rfl⟩
      rw [hde] at C1 hpv hd36
      have kd : IntKind.u32.wrap (d : Int) = (d : Int) := IntWalk.u32_in _ (by omega)
      obtain ⟨L1, hL1⟩ : ∃ L, (wds (V * r)).length = L := ⟨_, rfl⟩
      obtain ⟨L2, hL2⟩ : ∃ L, (wds (V * r + d)).length = L := ⟨_, rfl⟩
      have l1 : L1 ≤ 1025 := by
       have h1 := E2 V r
       have h3 : (wds r).length ≤ 1 := Bl (by have := H36.out; omega)
       omega
      have K1 := Lh (fun W g' (hb : Below wr.heap.size wr W) (g1 : RW W W.heap.size (some ⟨g', 0, none⟩) [r]) => show Cp 138 #[.slice A0 L0 c0, .slice (some ⟨g', 0, none⟩) 1 1] W (Ji (wds (V * r)) L1 W) from by
       have := Of A0 L0 c0 g' r (wds V) L1 W hL0 (by omega) (hr0.step hb) g1 (by rw [Ae]; exact hL1)
       rw [Ae] at this; exact this)
      have K2 := Lh (fun W A2 c2 g' (r2 : RW W W.heap.size A2 (wds (V * r))) (g1 : RW W W.heap.size (some ⟨g', 0, none⟩) [d]) => show Cp 137 #[.slice A2 L1 c2, .slice (some ⟨g', 0, none⟩) 1 1] W (Ji (wds (V * r + d)) L2 W) from by
       have := Tf A2 L1 c2 g' d (wds (V * r)) L2 W hL1 (by omega) r2 g1 (by rw [Ae]; exact hL2)
       rw [Ae] at this; exact this)
      have HLR := Lh (fun W => Hg W r (by have := H36.out; omega))
      have HLD := Lh (fun W => Hg W d (by omega))
      have HPV := Lh hpv
      have HL2 := Lh hL2
      clear hpv hL2
      clear hV hL0 hle hc0 hr0 hd hde hd36 hL1 l1
      go_wp2
      go_region_held3 (fun w' => True) (trivial) (first | (go_at_call 138; refine (K1.out _ _ (Ad ((Below.refl _ _).alloc (Nat.le_refl _) _) 1) ((HLR.out wr).drewN 1)).mono ?_; rintro e w2 ⟨A2, c2, rfl, ⟨hc2, r2⟩, b2⟩) | (go_at_call 108; refine (C1.out _).mono ?_; rintro e w' ⟨rfl, rfl⟩) | (go_at_call 137; refine (K2.out _ _ _ _ (r2.step ((Below.refl _ _).alloc (Nat.le_refl _) _)) (HLD.out _)).mono ?_; rintro e w3 ⟨A3, c3, rfl, ⟨hc3, r3⟩, b3⟩))
      all_goals
       have B2 : Below w.heap.size w w2 := Aa (Ad (hbw.alloc hbw.size _) 1) b2
       have B3 : Below w.heap.size w w3 := Aa (B2.alloc B2.size _) b3
       clear r2 b2 b3 B2 hc2 K1 K2
       have HSL := Lh (⟨A3, c3, by rw [HL2.out], by rw [HL2.out]; exact hc3, r3⟩ : Sl w3 w3.heap.size (.slice A3 L2 c3) (wds (V * r + d)))
       have HB3 := Lh B3
       clear r3 hc3 B3
       go_wp2
       exact ⟨⟨o + 1, by go_num, by omega, Lh (by rw [HPV.out]; exact HSL.out), HB3.out⟩, by simp [intOf]; omega⟩
     ·obtain rfl : o = N := by omega
      have HNV := Lh (show NV wr A0 L0 c0 (pv r (fun i => dgt (btn g i)) o) from ⟨by rw [HV.out]; exact hL0, hc0, by rw [HV.out]; exact hr0⟩)
      have hb4 : (g.size : Int) = (o : Int) := by rw [HGN.out]
      have b0 : ¬ (o : Int) < (o : Int) := by omega
      clear hlt hc0 hr0 hL0 hle hV
      go_wp2_with fail
      refine Bm (C7.out _ _ _ _ HNV.out) fun w4 b4 => ?_
      have B4 := Lh (Aa hbw b4)
      clear b4
      go_wp2
      go_ret
      exact ⟨rfl, B4.out⟩
   ·have a2 : ¬ (k : Int) < (s.size : Int) := by omega
    clear hk2 main
    go_wp2
    clear a1 a2 a3 hext b4 t1 hz
    go_loopw [6, 7] (fun av iv wr => ∃ o : Nat, iv = .int .i64 (o : Nat) ∧ o ≤ N ∧ Hid (Sl wr wr.heap.size av (wds (pv r (fun i => dgt (btn g i)) o))) ∧ Below w.heap.size w wr) (fun _ iv _ => N - (intOf iv).toNat)
    case atStart => exact ⟨0, rfl, Nat.zero_le _, Lh (Sl.nil _ _ _), Below.refl _ _⟩
    case round =>
     obtain ⟨o, rfl, ho, HS, hbw⟩ := hrel
     have hle := HL.out o ho
     obtain ⟨V, hV⟩ : ∃ V, pv r (fun i => dgt (btn g i)) o = V := ⟨_, rfl⟩
     rw [hV] at HS hle
     have HV := Lh hV
     obtain ⟨A0, c0, rfl, hc0, hr0⟩ := HS.out
     obtain ⟨L0, hL0⟩ : ∃ L, (wds V).length = L := ⟨_, rfl⟩
     rw [hL0] at hc0 hle ⊢
     by_cases hlt : o < N
     ·have hgo : o < g.size := by rw [HGN.out]; exact hlt
      have hd := HD.out o hgo
      have hb4 : (g.size : Int) = (N : Int) := by rw [HGN.out]
      have hx1 : (o : Int) < (N : Int) := by omega
      have hx2 : (o : Int) < (g.size : Int) := by omega
      have hx3 : (0 : Int) ≤ (o : Int) := by omega
      have hN1 : (N : Int) ≤ 1100 := by have := HN0.out; omega
      have C1 := Lh (fun W => show Cp 108 #[.int .u8 ((g[o]'hgo).toNat : Nat)] W fun e w' => e = .returned (.int .i64 (dgt (btn g o) : Nat)) ∧ W = w' from by
       rw [Dp g o hgo, ← H7 H36.out hd]; exact Cy _ W (Fi g o))
      have hpv : pv r (fun i => dgt (btn g i)) (o + 1) = V * r + dgt (btn g o) := by rw [← hV]; rfl
      have hd36 := Og (btn g o)
      obtain ⟨d, hde⟩ : ∃ d, dgt (btn g o) = d := ⟨_, rfl⟩
      rw [hde] at C1 hpv hd36
      have kd : IntKind.u32.wrap (d : Int) = (d : Int) := IntWalk.u32_in _ (by omega)
      obtain ⟨L1, hL1⟩ : ∃ L, (wds (V * r)).length = L := ⟨_, rfl⟩
      obtain ⟨L2, hL2⟩ : ∃ L, (wds (V * r + d)).length = L := ⟨_, rfl⟩
      have l1 : L1 ≤ 1025 := by
       have h1 := E2 V r
       have h3 : (wds r).length ≤ 1 := Bl (by have := H36.out; omega)
       omega
      have K1 := Lh (fun W g' (hb : Below wr.heap.size wr W) (g1 : RW W W.heap.size (some ⟨g', 0, none⟩) [r]) => show Cp 138 #[.slice A0 L0 c0, .slice (some ⟨g', 0, none⟩) 1 1] W (Ji (wds (V * r)) L1 W) from by
       have := Of A0 L0 c0 g' r (wds V) L1 W hL0 (by omega) (hr0.step hb) g1 (by rw [Ae]; exact hL1)
       rw [Ae] at this; exact this)
      have K2 := Lh (fun W A2 c2 g' (r2 : RW W W.heap.size A2 (wds (V * r))) (g1 : RW W W.heap.size (some ⟨g', 0, none⟩) [d]) => show Cp 137 #[.slice A2 L1 c2, .slice (some ⟨g', 0, none⟩) 1 1] W (Ji (wds (V * r + d)) L2 W) from by
       have := Tf A2 L1 c2 g' d (wds (V * r)) L2 W hL1 (by omega) r2 g1 (by rw [Ae]; exact hL2)
       rw [Ae] at this; exact this)
      have HLR := Lh (fun W => Hg W r (by have := H36.out; omega))
      have HLD := Lh (fun W => Hg W d (by omega))
      have HPV := Lh hpv
      have HL2 := Lh hL2
      clear hpv hL2
      clear hV hL0 hle hc0 hr0 hd hde hd36 hL1 l1
      go_wp2
      go_region_held3 (fun w' => True) (trivial) (first | (go_at_call 138; refine (K1.out _ _ (Ad ((Below.refl _ _).alloc (Nat.le_refl _) _) 1) ((HLR.out wr).drewN 1)).mono ?_; rintro e w2 ⟨A2, c2, rfl, ⟨hc2, r2⟩, b2⟩) | (go_at_call 108; refine (C1.out _).mono ?_; rintro e w' ⟨rfl, rfl⟩) | (go_at_call 137; refine (K2.out _ _ _ _ (r2.step ((Below.refl _ _).alloc (Nat.le_refl _) _)) (HLD.out _)).mono ?_; rintro e w3 ⟨A3, c3, rfl, ⟨hc3, r3⟩, b3⟩))
      all_goals
       have B2 : Below w.heap.size w w2 := Aa (Ad (hbw.alloc hbw.size _) 1) b2
       have B3 : Below w.heap.size w w3 := Aa (B2.alloc B2.size _) b3
       clear r2 b2 b3 B2 hc2 K1 K2
       have HSL := Lh (⟨A3, c3, by rw [HL2.out], by rw [HL2.out]; exact hc3, r3⟩ : Sl w3 w3.heap.size (.slice A3 L2 c3) (wds (V * r + d)))
       have HB3 := Lh B3
       clear r3 hc3 B3
       go_wp2
       exact ⟨⟨o + 1, by go_num, by omega, Lh (by rw [HPV.out]; exact HSL.out), HB3.out⟩, by simp [intOf]; omega⟩
     ·obtain rfl : o = N := by omega
      have HNV := Lh (show NV wr A0 L0 c0 (pv r (fun i => dgt (btn g i)) o) from ⟨by rw [HV.out]; exact hL0, hc0, by rw [HV.out]; exact hr0⟩)
      have hb4 : (g.size : Int) = (o : Int) := by rw [HGN.out]
      have b0 : ¬ (o : Int) < (o : Int) := by omega
      clear hlt hc0 hr0 hL0 hle hV
      go_wp2_with fail
      refine Bm (C7.out _ _ _ _ HNV.out) fun w4 b4 => ?_
      have B4 := Lh (Aa hbw b4)
      clear b4
      go_wp2
      go_ret
      exact ⟨rfl, B4.out⟩
theorem Tx (l : List Nat) (r : Nat) (w : World) (h2 : 2 ≤ r) (h36 : r ≤ 36) (hd : ∀ c ∈ l, dgt c < r) (hb : ∀ c ∈ l, c < 256) (hs : l.length ≤ 281474976710656) :
  Ct 109 #[.string (Ab l), .int .i64 r] (.float .f64 (Fs r l)) w := by
 have hbl := Ak hb
 have hz := Ah l
 have hgl : (ldz l).length ≤ l.length := (List.dropWhile_sublist _).length_le
 have hdr := V6 l
 have hex : (Ab l).extract (l.length - (ldz l).length) (Ab l).size = Ab (ldz l) := by rw [Ge, hbl, hdr]
 have hgb : ∀ c ∈ ldz l, c < 256 := fun c hc => hb c (E3 hc)
 have hgd : ∀ c ∈ ldz l, dgt c < r := fun c hc => hd c (E3 hc)
 have Z1 : Hid (∀ k (h : k < (Ab l).size), k < l.length - (ldz l).length → ((Ab l)[k]'h).toNat = 48) := Lh (fun k h hk => by
  have h1 := C0 (Ab l) k h
  rw [hbl, Ra l k hk] at h1
  exact (Option.some.inj h1).symm)
 have Z2 : Hid (∀ h : l.length - (ldz l).length < (Ab l).size, ((Ab l)[l.length - (ldz l).length]'h).toNat ≠ 48) := Lh (fun h e => by
  have h1 := C0 (Ab l) _ h
  rw [hbl, e] at h1
  have h2 : (l.drop (l.length - (ldz l).length)).head? = some 48 := by rw [List.head?_drop]; exact h1
  rw [hdr] at h2
  exact Ch l h2)
 obtain ⟨N, hN⟩ : ∃ N, (ldz l).length = N := ⟨_, rfl⟩
 obtain ⟨K, hK⟩ : ∃ K, l.length - (ldz l).length = K := ⟨_, rfl⟩
 rw [hK] at hex Z1 Z2
 by_cases h : 1100 < N
 ·have key : Fs r l = 9218868437227405312 := by
   rw [← Rm]
   obtain ⟨D, hD⟩ : ∃ D : Nat, D = 1024 := ⟨_, rfl⟩
   refine Yk hD ?_
   refine Nat.le_trans ?_ (Xy (r := r) (fun e => by rw [e] at hN; simp at hN; omega) (Ch l))
   exact Nat.le_trans (Nat.pow_le_pow_left h2 D) (Nat.pow_le_pow_right (by omega) (by omega))
  rw [key]
  exact Aix (Ab l) K N r w (by omega) (by omega) (by omega) Z1 Z2 h
 ·have hbg := Ak hgb
  have hgs := Ah (ldz l)
  have hbt : ∀ i, i < (Ab (ldz l)).size → dgt (btn (Ab (ldz l)) i) < r := fun i hi => by
   rw [Uf _ _ hi, hbg, List.getD_eq_getElem?_getD, List.getElem?_eq_getElem (by omega)]
   exact hgd _ (List.getElem_mem _)
  have hsv : pv r (fun i => dgt (btn (Ab (ldz l)) i)) N = num r l := by
   have := Uj r (Ab (ldz l))
   rw [hbg] at this
   unfold sv at this
   rw [hgs, hN] at this
   rw [this]
   exact Cu r l
  have hnum : num r (ldz l) = num r l := Cu r l
  have hbn : bln (num r l) ≤ 30000 := by
   rw [← hnum]
   have a1 := Cx (Nat.le_of_lt (Zm hgd))
   have a2 := Ne r (ldz l).length
   have a3 : bln r ≤ 6 := Gd (by omega)
   have a4 : bln r * (ldz l).length ≤ 6 * 1100 := Nat.mul_le_mul a3 (by omega)
   omega
  have HL : Hid (∀ o, o ≤ N → (wds (pv r (fun i => dgt (btn (Ab (ldz l)) i)) o)).length ≤ 940) := Lh (fun o ho => by
   have h1 := My (r := r) (g := fun i => dgt (btn (Ab (ldz l)) i)) (by omega) ho
   rw [hsv] at h1
   exact Bb (Nat.le_trans (Cx h1) hbn))
  refine Af2 (Ab l) (Ab (ldz l)) K N r (Fs r l) w (by omega) (by omega) (by omega) Z1 Z2 h hex (by omega) h2 h36 hbt HL (Lh (fun W A n c g => ?_))
  rw [hsv] at g
  obtain ⟨K0, hK0, hdd⟩ := Fj
  have := Sy g hbn K0 0 0 (by omega) (by omega) (by omega)
  unfold Fs
  rw [hdd, show (0 : Int).toNat = 0 from rfl, show (-(0 : Int)).toNat = 0 from rfl, Nat.pow_zero, Nat.mul_one]
  exact this
end
section
theorem Ze (s : ByteArray) (w : World) (h : s.size < 3) :
  Cq 77 #[.string s] (.tuple #[.float .f64 0, .bool false]) w := by
 have a1 : (s.size : Int) < 3 := by omega
 clear h
 go_enter Tryz.func77, Tryz.ntmps77
 go_wp2
 go_ret2
 exact ⟨rfl, rfl⟩
theorem Anj (s : ByteArray) (B : Nat) (w : World) (h : 3 ≤ s.size) (g0 : 0 < s.size) (h0 : (s[0]'g0).toNat = B) (n0 : B ≠ 48) :
  Cq 77 #[.string s] (.tuple #[.float .f64 0, .bool false]) w := by
 have a1 : ¬ (s.size : Int) < 3 := by omega
 have a2 : (0 : Int) < (s.size : Int) := by omega
 have e0 : ((s[0]'g0).toNat : Int) = (B : Int) := by rw [h0]
 have e1 : ((B : Int) != 48) = true := by rw [bne_iff_ne]; omega
 clear h h0 n0
 go_enter Tryz.func77, Tryz.ntmps77
 go_wp2
 go_ret2
 exact ⟨rfl, rfl⟩
theorem Anf (s : ByteArray) (B : Nat) (w : World) (h : 3 ≤ s.size) (g0 : 0 < s.size) (h0 : (s[0]'g0).toNat = 48) (g1 : 1 < s.size) (h1 : (s[1]'g1).toNat = B) (n1 : B ≠ 120) (n2 : B ≠ 88) :
  Cq 77 #[.string s] (.tuple #[.float .f64 0, .bool false]) w := by
 have a1 : ¬ (s.size : Int) < 3 := by omega
 have a2 : (1 : Int) < (s.size : Int) := by omega
 have e0 : ((s[0]'g0).toNat : Int) = 48 := by rw [h0]; rfl
 have e1 : ((s[1]'g1).toNat : Int) = (B : Int) := by rw [h1]
 have e2 : ((B : Int) != 120) = true := by rw [bne_iff_ne]; omega
 have e3 : ((B : Int) != 88) = true := by rw [bne_iff_ne]; omega
 clear h h0 h1 n1 n2
 go_enter Tryz.func77, Tryz.ntmps77
 go_wp2
 go_ret2
 exact ⟨rfl, rfl⟩
theorem Y8 (s : ByteArray) (J : Nat) (w : World) (hs : s.size ≤ 281474976710656) (h : 3 ≤ s.size) (g0 : 0 < s.size) (h0 : (s[0]'g0).toNat = 48) (g1 : 1 < s.size) (h1 : (s[1]'g1).toNat = 120)
  (hJ : ∀ i, 2 ≤ i → i < J → dgt (btn s i) < 16) (hJ2 : 2 ≤ J) (hJs : J < s.size) (hJn : ¬ dgt (btn s J) < 16) :
  Cq 77 #[.string s] (.tuple #[.float .f64 0, .bool false]) w := by
 have a0 : (s.size : Int) ≤ 281474976710656 := by omega
 have a1 : ¬ (s.size : Int) < 3 := by omega
 have a2 : (1 : Int) < (s.size : Int) := by omega
 have a3 : (2 : Int) ≤ (s.size : Int) := by omega
 have e0 : ((s[0]'g0).toNat : Int) = 48 := by rw [h0]; rfl
 have e1 : ((s[1]'g1).toNat : Int) = 120 := by rw [h1]; rfl
 have HJ := Lh hJ
 have HJ2 := Lh hJ2
 have HJS := Lh hJs
 have HJN := Lh hJn
 clear hs h h0 h1 hJ hJ2 hJs hJn
 go_enter Tryz.func77, Tryz.ntmps77
 go_wp2
 clear e0 e1 a1
 go_loopw [4] (fun i wr => ∃ k : Nat, i = .int .i64 k ∧ 2 ≤ k ∧ k ≤ J ∧ w = wr) (fun i _ => J - (intOf i).toNat)
 case atStart => exact ⟨2, rfl, Nat.le_refl _, HJ2.out, rfl⟩
 case round =>
  obtain ⟨k, rfl, hk2, hk, rfl⟩ := hrel
  by_cases hlt : k < J
  ·have hks : k < s.size := by have := HJS.out; omega
   have C1 := Lh (fun W => show Cp 108 #[.int .u8 ((s[k]'hks).toNat : Nat)] W fun e w' => e = .returned (.int .i64 (dgt (btn s k) : Nat)) ∧ W = w' from by
    rw [Dp s k hks, ← H7 (r := 16) (by omega) (HJ.out k hk2 hlt)]; exact Cy _ W (Fi s k))
   have hd := HJ.out k hk2 hlt
   obtain ⟨d, hde⟩ : ∃ d, dgt (btn s k) = d := ⟨_, rfl⟩
   rw [hde] at C1 hd
   have b1 : ¬ (16 : Int) ≤ (d : Int) := by omega
   have b2 : (k : Int) < (s.size : Int) := by omega
   have b3 : (0 : Int) ≤ (k : Int) := by omega
   clear hde hd
   go_wp2_with fail
   refine Sm (C1.out _) ?_
   go_wp2
   exact ⟨⟨k + 1, by go_num, by omega, by omega, trivial⟩, by simp [intOf]; omega⟩
  ·obtain rfl : k = J := by omega
   have hks : k < s.size := HJS.out
   have C1 := Lh (fun W => show Cp 108 #[.int .u8 ((s[k]'hks).toNat : Nat)] W fun e w' => e = .returned (.int .i64 (dgz (btn s k) : Nat)) ∧ W = w' from by
    rw [Dp s k hks]; exact Cy _ W (Fi s k))
   have hd : ¬ dgz (btn s k) < 16 := fun h => HJN.out ((Ahs (by omega)).1 h)
   obtain ⟨d, hde⟩ : ∃ d, dgz (btn s k) = d := ⟨_, rfl⟩
   rw [hde] at C1 hd
   have b1 : (16 : Int) ≤ (d : Int) := by omega
   have b2 : (k : Int) < (s.size : Int) := by omega
   have b3 : (0 : Int) ≤ (k : Int) := by omega
   clear hde hd
   go_wp2_with fail
   refine Sm (C1.out _) ?_
   go_wp2
   go_ret2
   exact ⟨rfl, rfl⟩
theorem Aat (s : ByteArray) (J F : Nat) (w : World) (hs : s.size ≤ 281474976710656) (h : 3 ≤ s.size) (g0 : 0 < s.size) (h0 : (s[0]'g0).toNat = 48) (g1 : 1 < s.size) (h1 : (s[1]'g1).toNat = 120)
  (hJ : ∀ i, 2 ≤ i → i < J → dgt (btn s i) < 16) (hJ2 : 2 ≤ J) (hJs : J = s.size)
  (C2 : Hid (∀ W, Ct 109 #[.string (s.extract 2 s.size), .int .i64 16] (.float .f64 F) W)) :
  Ct 77 #[.string s] (.tuple #[.float .f64 F, .bool true]) w := by
 have a0 : (s.size : Int) ≤ 281474976710656 := by omega
 have a1 : ¬ (s.size : Int) < 3 := by omega
 have a2 : (1 : Int) < (s.size : Int) := by omega
 have a3 : (2 : Int) ≤ (s.size : Int) := by omega
 have e0 : ((s[0]'g0).toNat : Int) = 48 := by rw [h0]; rfl
 have e1 : ((s[1]'g1).toNat : Int) = 120 := by rw [h1]; rfl
 have HJ := Lh hJ
 have HJ2 := Lh hJ2
 have HJS := Lh hJs
 clear hs h h0 h1 hJ hJ2 hJs
 go_enter Tryz.func77, Tryz.ntmps77
 go_wp2
 clear e0 e1 a1
 go_loopw [4] (fun i wr => ∃ k : Nat, i = .int .i64 k ∧ 2 ≤ k ∧ k ≤ J ∧ w = wr) (fun i _ => J - (intOf i).toNat)
 case atStart => exact ⟨2, rfl, Nat.le_refl _, HJ2.out, rfl⟩
 case round =>
  obtain ⟨k, rfl, hk2, hk, rfl⟩ := hrel
  by_cases hlt : k < J
  ·have hks : k < s.size := by have := HJS.out; omega
   have C1 := Lh (fun W => show Cp 108 #[.int .u8 ((s[k]'hks).toNat : Nat)] W fun e w' => e = .returned (.int .i64 (dgt (btn s k) : Nat)) ∧ W = w' from by
    rw [Dp s k hks, ← H7 (r := 16) (by omega) (HJ.out k hk2 hlt)]; exact Cy _ W (Fi s k))
   have hd := HJ.out k hk2 hlt
   obtain ⟨d, hde⟩ : ∃ d, dgt (btn s k) = d := ⟨_, rfl⟩
   rw [hde] at C1 hd
   have b1 : ¬ (16 : Int) ≤ (d : Int) := by omega
   have b2 : (k : Int) < (s.size : Int) := by omega
   have b3 : (0 : Int) ≤ (k : Int) := by omega
   clear hde hd
   go_wp2_with fail
   refine Sm (C1.out _) ?_
   go_wp2
   exact ⟨⟨k + 1, by go_num, by omega, by omega, trivial⟩, by simp [intOf]; omega⟩
  ·obtain rfl : k = J := by omega
   have b2 : ¬ (k : Int) < (s.size : Int) := by have := HJS.out; omega
   go_wp2_with fail
   refine (C2.out _).mono ?_
   rintro e w' ⟨rfl, hb⟩
   go_wp2
   go_ret2
   exact ⟨rfl, hb⟩
theorem Afk (s : ByteArray) (J : Nat) (w : World) (hs : s.size ≤ 281474976710656) (h : 3 ≤ s.size) (g0 : 0 < s.size) (h0 : (s[0]'g0).toNat = 48) (g1 : 1 < s.size) (h1 : (s[1]'g1).toNat = 88)
  (hJ : ∀ i, 2 ≤ i → i < J → dgt (btn s i) < 16) (hJ2 : 2 ≤ J) (hJs : J < s.size) (hJn : ¬ dgt (btn s J) < 16) :
  Cq 77 #[.string s] (.tuple #[.float .f64 0, .bool false]) w := by
 have a0 : (s.size : Int) ≤ 281474976710656 := by omega
 have a1 : ¬ (s.size : Int) < 3 := by omega
 have a2 : (1 : Int) < (s.size : Int) := by omega
 have a3 : (2 : Int) ≤ (s.size : Int) := by omega
 have e0 : ((s[0]'g0).toNat : Int) = 48 := by rw [h0]; rfl
 have e1 : ((s[1]'g1).toNat : Int) = 88 := by rw [h1]; rfl
 have HJ := Lh hJ
 have HJ2 := Lh hJ2
 have HJS := Lh hJs
 have HJN := Lh hJn
 clear hs h h0 h1 hJ hJ2 hJs hJn
 go_enter Tryz.func77, Tryz.ntmps77
 go_wp2
 clear e0 e1 a1
 go_loopw [4] (fun i wr => ∃ k : Nat, i = .int .i64 k ∧ 2 ≤ k ∧ k ≤ J ∧ w = wr) (fun i _ => J - (intOf i).toNat)
 case atStart => exact ⟨2, rfl, Nat.le_refl _, HJ2.out, rfl⟩
 case round =>
  obtain ⟨k, rfl, hk2, hk, rfl⟩ := hrel
  by_cases hlt : k < J
  ·have hks : k < s.size := by have := HJS.out; omega
   have C1 := Lh (fun W => show Cp 108 #[.int .u8 ((s[k]'hks).toNat : Nat)] W fun e w' => e = .returned (.int .i64 (dgt (btn s k) : Nat)) ∧ W = w' from by
    rw [Dp s k hks, ← H7 (r := 16) (by omega) (HJ.out k hk2 hlt)]; exact Cy _ W (Fi s k))
   have hd := HJ.out k hk2 hlt
   obtain ⟨d, hde⟩ : ∃ d, dgt (btn s k) = d := ⟨_, rfl⟩
   rw [hde] at C1 hd
   have b1 : ¬ (16 : Int) ≤ (d : Int) := by omega
   have b2 : (k : Int) < (s.size : Int) := by omega
   have b3 : (0 : Int) ≤ (k : Int) := by omega
   clear hde hd
   go_wp2_with fail
   refine Sm (C1.out _) ?_
   go_wp2
   exact ⟨⟨k + 1, by go_num, by omega, by omega, trivial⟩, by simp [intOf]; omega⟩
  ·obtain rfl : k = J := by omega
   have hks : k < s.size := HJS.out
   have C1 := Lh (fun W => show Cp 108 #[.int .u8 ((s[k]'hks).toNat : Nat)] W fun e w' => e = .returned (.int .i64 (dgz (btn s k) : Nat)) ∧ W = w' from by
    rw [Dp s k hks]; exact Cy _ W (Fi s k))
   have hd : ¬ dgz (btn s k) < 16 := fun h => HJN.out ((Ahs (by omega)).1 h)
   obtain ⟨d, hde⟩ : ∃ d, dgz (btn s k) = d := ⟨_, rfl⟩
   rw [hde] at C1 hd
   have b1 : (16 : Int) ≤ (d : Int) := by omega
   have b2 : (k : Int) < (s.size : Int) := by omega
   have b3 : (0 : Int) ≤ (k : Int) := by omega
   clear hde hd
   go_wp2_with fail
   refine Sm (C1.out _) ?_
   go_wp2
   go_ret2
   exact ⟨rfl, rfl⟩
theorem Acr (s : ByteArray) (J F : Nat) (w : World) (hs : s.size ≤ 281474976710656) (h : 3 ≤ s.size) (g0 : 0 < s.size) (h0 : (s[0]'g0).toNat = 48) (g1 : 1 < s.size) (h1 : (s[1]'g1).toNat = 88)
  (hJ : ∀ i, 2 ≤ i → i < J → dgt (btn s i) < 16) (hJ2 : 2 ≤ J) (hJs : J = s.size)
  (C2 : Hid (∀ W, Ct 109 #[.string (s.extract 2 s.size), .int .i64 16] (.float .f64 F) W)) :
  Ct 77 #[.string s] (.tuple #[.float .f64 F, .bool true]) w := by
 have a0 : (s.size : Int) ≤ 281474976710656 := by omega
 have a1 : ¬ (s.size : Int) < 3 := by omega
 have a2 : (1 : Int) < (s.size : Int) := by omega
 have a3 : (2 : Int) ≤ (s.size : Int) := by omega
 have e0 : ((s[0]'g0).toNat : Int) = 48 := by rw [h0]; rfl
 have e1 : ((s[1]'g1).toNat : Int) = 88 := by rw [h1]; rfl
 have HJ := Lh hJ
 have HJ2 := Lh hJ2
 have HJS := Lh hJs
 clear hs h h0 h1 hJ hJ2 hJs
 go_enter Tryz.func77, Tryz.ntmps77
 go_wp2
 clear e0 e1 a1
 go_loopw [4] (fun i wr => ∃ k : Nat, i = .int .i64 k ∧ 2 ≤ k ∧ k ≤ J ∧ w = wr) (fun i _ => J - (intOf i).toNat)
 case atStart => exact ⟨2, rfl, Nat.le_refl _, HJ2.out, rfl⟩
 case round =>
  obtain ⟨k, rfl, hk2, hk, rfl⟩ := hrel
  by_cases hlt : k < J
  ·have hks : k < s.size := by have := HJS.out; omega
   have C1 := Lh (fun W => show Cp 108 #[.int .u8 ((s[k]'hks).toNat : Nat)] W fun e w' => e = .returned (.int .i64 (dgt (btn s k) : Nat)) ∧ W = w' from by
    rw [Dp s k hks, ← H7 (r := 16) (by omega) (HJ.out k hk2 hlt)]; exact Cy _ W (Fi s k))
   have hd := HJ.out k hk2 hlt
   obtain ⟨d, hde⟩ : ∃ d, dgt (btn s k) = d := ⟨_, rfl⟩
   rw [hde] at C1 hd
   have b1 : ¬ (16 : Int) ≤ (d : Int) := by omega
   have b2 : (k : Int) < (s.size : Int) := by omega
   have b3 : (0 : Int) ≤ (k : Int) := by omega
   clear hde hd
   go_wp2_with fail
   refine Sm (C1.out _) ?_
   go_wp2
   exact ⟨⟨k + 1, by go_num, by omega, by omega, trivial⟩, by simp [intOf]; omega⟩
  ·obtain rfl : k = J := by omega
   have b2 : ¬ (k : Int) < (s.size : Int) := by have := HJS.out; omega
   go_wp2_with fail
   refine (C2.out _).mono ?_
   rintro e w' ⟨rfl, hb⟩
   go_wp2
   go_ret2
   exact ⟨rfl, hb⟩
theorem Gt (w : World) : Cq 46 #[] (.float .f64 Me) w := by
 have h1 : (callFunc 69 #[.int .u64 9221120237041090560]).run Tryz.prog w = .ok (.value (.float .f64 9221120237041090560)) w := Ca 9221120237041090560 w
 go_enter Tryz.func46, Tryz.ntmps46
 go_wp2
 go_ret
 exact ⟨rfl, rfl⟩
end
section
theorem An6 {s : ByteArray} {k : Nat} (h : k < s.size) : (bl s)[k]? = some (btn s k) := by
 rw [C0 s k h, Dp s k h]
theorem Ae7 (s : ByteArray) (h : 2 ≤ s.size) : ∃ J, 2 ≤ J ∧ J ≤ s.size ∧ (∀ i, 2 ≤ i → i < J → dgt (btn s i) < 16) ∧ (J < s.size → ¬ dgt (btn s J) < 16) := by
 have main : ∀ m, ∀ k, 2 ≤ k → k + m = s.size → (∀ i, 2 ≤ i → i < k → dgt (btn s i) < 16) → ∃ J, 2 ≤ J ∧ J ≤ s.size ∧ (∀ i, 2 ≤ i → i < J → dgt (btn s i) < 16) ∧ (J < s.size → ¬ dgt (btn s J) < 16) := by
  intro m
  induction m with
  | zero => exact fun k h1 h2 h3 => ⟨k, h1, by omega, h3, fun h => absurd h (by omega)⟩
  | succ m ih =>
   intro k h1 h2 h3
   by_cases hd : dgt (btn s k) < 16
   ·refine ih (k + 1) (by omega) (by omega) (fun i hi hi2 => ?_)
    rcases Nat.lt_or_ge i k with h | h
    ·exact h3 i hi h
    ·rw [show i = k by omega]; exact hd
   ·exact ⟨k, h1, by omega, h3, fun _ => hd⟩
 exact main (s.size - 2) 2 (Nat.le_refl _) (by omega) (fun i h1 h2 => absurd h2 (by omega))
theorem Aif {s : ByteArray} : ((bl s).drop 2).all Pl = true ↔ ∀ i, 2 ≤ i → i < s.size → dgt (btn s i) < 16 := by
 rw [List.all_eq_true]
 constructor
 ·intro h i h1 h2
  have hg := An6 h2
  have : btn s i ∈ (bl s).drop 2 := List.mem_iff_getElem?.2 ⟨i - 2, by rw [List.getElem?_drop, show 2 + (i - 2) = i by omega, hg]⟩
  have := h _ this
  unfold Pl at this
  exact of_decide_eq_true this
 ·intro h c hc
  obtain ⟨j, hj⟩ := List.mem_iff_getElem?.1 hc
  rw [List.getElem?_drop] at hj
  obtain ⟨hk, hb⟩ := Hm hj
  have := h (2 + j) (by omega) hk
  unfold Pl
  refine decide_eq_true ?_
  rw [← hb, Dp s _ hk]
  exact this
theorem Aii (s : ByteArray) (w : World) (hs : s.size ≤ 140737488355328) :
  Ct 77 #[.string s] (.tuple #[.float .f64 (if hxB (bl s) = true then Fs 16 ((bl s).drop 2) else 0), .bool (hxB (bl s))]) w := by
 have hbl := By s
 have no : hxB (bl s) = false → Cp 77 #[.string s] w (fun e w' => e = .returned (.tuple #[.float .f64 0, .bool false]) ∧ w = w') → Ct 77 #[.string s] (.tuple #[.float .f64 (if hxB (bl s) = true then Fs 16 ((bl s).drop 2) else 0), .bool (hxB (bl s))]) w := by
  intro h1 h2
  rw [h1]
  refine h2.mono ?_
  rintro e w' ⟨rfl, rfl⟩
  exact ⟨rfl, Below.refl _ _⟩
 by_cases h3 : s.size < 3
 ·refine no ?_ (Ze s w h3)
  unfold hxB
  have : (bl s).drop 2 = [] := List.drop_eq_nil_iff.2 (by rw [hbl]; omega)
  rw [this]
  simp
 ·have g0 : 0 < s.size := by omega
  have g1 : 1 < s.size := by omega
  have b0 := C0 s 0 g0
  have b1 := C0 s 1 g1
  have hh : (bl s).head? = some (s[0]'g0).toNat := by rw [List.head?_eq_getElem?]; exact b0
  have ht : (bl s).tail.head? = some (s[1]'g1).toNat := by rw [List.head?_eq_getElem?, List.getElem?_tail]; exact b1
  obtain ⟨B0, hB0⟩ : ∃ B : Nat, (s[0]'g0).toNat = B := ⟨_, rfl⟩
  obtain ⟨B1, hB1⟩ : ∃ B : Nat, (s[1]'g1).toNat = B := ⟨_, rfl⟩
  rw [hB0] at hh
  rw [hB1] at ht
  by_cases n0 : B0 = 48
  ·subst n0
   by_cases hx : B1 = 120 ∨ B1 = 88
   ·have hA : hxA (bl s) = true := by
     unfold hxA
     rw [hh, ht]
     rcases hx with rfl | rfl <;> rfl
    have hE : ((bl s).drop 2).isEmpty = false := by
     rw [Bool.eq_false_iff]
     intro h
     have := congrArg List.length (List.isEmpty_iff.1 h)
     rw [List.length_drop, hbl] at this
     simp at this
     omega
    have hB : hxB (bl s) = ((bl s).drop 2).all Pl := by
     unfold hxB
     rw [hA, hE]
     rfl
    obtain ⟨J, j1, j2, j3, j4⟩ := Ae7 s (by omega)
    rcases Nat.lt_or_ge J s.size with hJ | hJ
    ·refine no ?_ ?_
     ·rw [hB, Bool.eq_false_iff]
      intro h
      exact j4 hJ (Aif.1 h J j1 hJ)
     ·rcases hx with rfl | rfl
      ·exact Y8 s J w (by omega) (by omega) g0 hB0 g1 hB1 j3 j1 hJ (j4 hJ)
      ·exact Afk s J w (by omega) (by omega) g0 hB0 g1 hB1 j3 j1 hJ (j4 hJ)
    ·have hJs : J = s.size := by omega
     have hall : hxB (bl s) = true := by rw [hB]; exact Aif.2 (fun i h1 h2 => j3 i h1 (by omega))
     have C2 : Hid (∀ W, Ct 109 #[.string (s.extract 2 s.size), .int .i64 16] (.float .f64 (Fs 16 ((bl s).drop 2))) W) := Lh (fun W => by
      rw [Ge]
      refine Tx _ 16 W (by omega) (by omega) (fun c hc => ?_) (fun c hc => J9 s c (List.mem_of_mem_drop hc)) (by rw [List.length_drop]; omega)
      have := List.all_eq_true.1 (by rw [← hB]; exact hall) c hc
      exact of_decide_eq_true this)
     rw [hall, if_pos rfl]
     rcases hx with rfl | rfl
     ·exact Aat s J _ w (by omega) (by omega) g0 hB0 g1 hB1 j3 j1 hJs C2
     ·exact Acr s J _ w (by omega) (by omega) g0 hB0 g1 hB1 j3 j1 hJs C2
   ·refine no ?_ (Anf s B1 w (by omega) g0 hB0 g1 hB1 (fun h => hx (Or.inl h)) (fun h => hx (Or.inr h)))
    unfold hxB hxA
    rw [ht, beq_eq_false_iff_ne.2 (fun e => hx (Or.inl (Option.some.inj e))), beq_eq_false_iff_ne.2 (fun e => hx (Or.inr (Option.some.inj e)))]
    simp
  ·refine no ?_ (Anj s B0 w (by omega) g0 hB0 n0)
   unfold hxB hxA
   rw [hh, beq_eq_false_iff_ne.2 (fun e => n0 (Option.some.inj e))]
   rfl
end
section
def Aiq (r : Nat) : Nat := Op.negFloat .f64 r
end
section
theorem Ajp (s t b : ByteArray) (w : World)
  (CT : Hid (∀ W, Ct 76 #[.string s] (.string t) W))
  (CB : Hid (∀ W, Ct 75 #[.string t] (.string b) W)) (t0 : ((b.size : Int) == 0) = true) :
  Ct 51 #[.string s] (.float .f64 0) w := by
 have B0 := Lh (Below.refl w.heap.size w)
 go_enter Tryz.func51, Tryz.ntmps51
 go_wp2_with fail
 refine Bm (CT.out _) fun w1 b1 => ?_
 have B1 := Lh (Aa B0.out b1)
 clear b1
 go_wp2_with fail
 refine Bm (CB.out _) fun w2 b2 => ?_
 have B2 := Lh (Aa B1.out b2)
 clear b2
 go_wp2
 go_ret
 exact ⟨rfl, B2.out⟩
theorem Af4 (s t b : ByteArray) (x : Nat) (w : World)
  (CT : Hid (∀ W, Ct 76 #[.string s] (.string t) W))
  (CB : Hid (∀ W, Ct 75 #[.string t] (.string b) W))
  (CX : Hid (∀ W, Ct 77 #[.string b] (.tuple #[.float .f64 x, .bool true]) W)) (t0 : ((b.size : Int) == 0) = false) :
  Ct 51 #[.string s] (.float .f64 x) w := by
 have B0 := Lh (Below.refl w.heap.size w)
 go_enter Tryz.func51, Tryz.ntmps51
 go_wp2_with fail
 refine Bm (CT.out _) fun w1 b1 => ?_
 have B1 := Lh (Aa B0.out b1)
 clear b1
 go_wp2_with fail
 refine Bm (CB.out _) fun w2 b2 => ?_
 have B2 := Lh (Aa B1.out b2)
 clear b2
 go_wp2_with fail
 refine Bm (CX.out _) fun w3 b3 => ?_
 have B3 := Lh (Aa B2.out b3)
 clear b3
 go_wp2
 go_ret
 exact ⟨rfl, B3.out⟩
theorem Oe (s t b u : ByteArray) (x y : Nat) (n : Int) (w : World)
  (CT : Hid (∀ W, Ct 76 #[.string s] (.string t) W))
  (CB : Hid (∀ W, Ct 75 #[.string t] (.string b) W))
  (CX : Hid (∀ W, Ct 77 #[.string b] (.tuple #[.float .f64 x, .bool false]) W))
  (CL : Hid (∀ W, Ct 78 #[.string u] (.tuple #[.int .i64 n, .float .f64 y]) W)) (t0 : ((b.size : Int) == 0) = false) (hs : b.size ≤ 281474976710656) (g0 : 0 < b.size) (h0 : (b[0]'g0).toNat = 45)
  (hu : (b.extract 1 b.size) = u) (ti : (u.toList == [73, 110, 102, 105, 110, 105, 116, 121]) = true) :
  Ct 51 #[.string s] (.float .f64 (Aiq 9218868437227405312)) w := by
 have B0 := Lh (Below.refl w.heap.size w)
 have a0 : (b.size : Int) ≤ 281474976710656 := by omega
 have a1 : (0 : Int) < (b.size : Int) := by omega
 have a2 : (1 : Int) ≤ (b.size : Int) := by omega
 have e0 : ((b[0]'g0).toNat : Int) = 45 := by rw [h0]; rfl
 have CI := Lh (fun W => Dr W)
 have r3 : ∀ W, (Op.unary UnOp.neg (.float .f64 9218868437227405312)).run Tryz.prog W = .ok (.float .f64 (Aiq 9218868437227405312)) W := fun W => rfl
 clear hs h0
 go_enter Tryz.func51, Tryz.ntmps51
 go_wp2_with fail
 refine Bm (CT.out _) fun w1 b1 => ?_
 have B1 := Lh (Aa B0.out b1)
 clear b1
 go_wp2_with fail
 refine Bm (CB.out _) fun w2 b2 => ?_
 have B2 := Lh (Aa B1.out b2)
 clear b2
 go_wp2_with fail
 refine Bm (CX.out _) fun w3 b3 => ?_
 have B3 := Lh (Aa B2.out b3)
 clear b3
 go_wp2_with fail
 refine Bm (CL.out _) fun w4 b4 => ?_
 have B4 := Lh (Aa B3.out b4)
 clear b4
 go_wp2_with fail
 refine Sm (CI.out _) ?_
 go_wp2
 go_ret
 exact ⟨rfl, B4.out⟩
theorem Mn (s t b u : ByteArray) (x y : Nat) (n : Int) (w : World)
  (CT : Hid (∀ W, Ct 76 #[.string s] (.string t) W))
  (CB : Hid (∀ W, Ct 75 #[.string t] (.string b) W))
  (CX : Hid (∀ W, Ct 77 #[.string b] (.tuple #[.float .f64 x, .bool false]) W))
  (CL : Hid (∀ W, Ct 78 #[.string u] (.tuple #[.int .i64 n, .float .f64 y]) W)) (t0 : ((b.size : Int) == 0) = false) (hs : b.size ≤ 281474976710656) (g0 : 0 < b.size) (h0 : (b[0]'g0).toNat = 45)
  (hu : (b.extract 1 b.size) = u) (ti : (u.toList == [73, 110, 102, 105, 110, 105, 116, 121]) = false) (t1 : (n == 0) = true) :
  Ct 51 #[.string s] (.float .f64 Me) w := by
 have B0 := Lh (Below.refl w.heap.size w)
 have a0 : (b.size : Int) ≤ 281474976710656 := by omega
 have a1 : (0 : Int) < (b.size : Int) := by omega
 have a2 : (1 : Int) ≤ (b.size : Int) := by omega
 have e0 : ((b[0]'g0).toNat : Int) = 45 := by rw [h0]; rfl
 have CN := Lh (fun W => Gt W)
 clear hs h0
 go_enter Tryz.func51, Tryz.ntmps51
 go_wp2_with fail
 refine Bm (CT.out _) fun w1 b1 => ?_
 have B1 := Lh (Aa B0.out b1)
 clear b1
 go_wp2_with fail
 refine Bm (CB.out _) fun w2 b2 => ?_
 have B2 := Lh (Aa B1.out b2)
 clear b2
 go_wp2_with fail
 refine Bm (CX.out _) fun w3 b3 => ?_
 have B3 := Lh (Aa B2.out b3)
 clear b3
 go_wp2_with fail
 refine Bm (CL.out _) fun w4 b4 => ?_
 have B4 := Lh (Aa B3.out b4)
 clear b4
 go_wp2_with fail
 refine Sm (CN.out _) ?_
 go_wp2
 go_ret
 exact ⟨rfl, B4.out⟩
theorem L9 (s t b u : ByteArray) (x y : Nat) (n U : Int) (w : World)
  (CT : Hid (∀ W, Ct 76 #[.string s] (.string t) W))
  (CB : Hid (∀ W, Ct 75 #[.string t] (.string b) W))
  (CX : Hid (∀ W, Ct 77 #[.string b] (.tuple #[.float .f64 x, .bool false]) W))
  (CL : Hid (∀ W, Ct 78 #[.string u] (.tuple #[.int .i64 n, .float .f64 y]) W)) (t0 : ((b.size : Int) == 0) = false) (hs : b.size ≤ 281474976710656) (g0 : 0 < b.size) (h0 : (b[0]'g0).toNat = 45)
  (hu : (b.extract 1 b.size) = u) (hus : (u.size : Int) = U) (ti : (u.toList == [73, 110, 102, 105, 110, 105, 116, 121]) = false) (t1 : (n == 0) = false) (t2 : (n != U) = true) :
  Ct 51 #[.string s] (.float .f64 Me) w := by
 have B0 := Lh (Below.refl w.heap.size w)
 have a0 : (b.size : Int) ≤ 281474976710656 := by omega
 have a1 : (0 : Int) < (b.size : Int) := by omega
 have a2 : (1 : Int) ≤ (b.size : Int) := by omega
 have e0 : ((b[0]'g0).toNat : Int) = 45 := by rw [h0]; rfl
 have CN := Lh (fun W => Gt W)
 clear hs h0
 go_enter Tryz.func51, Tryz.ntmps51
 go_wp2_with fail
 refine Bm (CT.out _) fun w1 b1 => ?_
 have B1 := Lh (Aa B0.out b1)
 clear b1
 go_wp2_with fail
 refine Bm (CB.out _) fun w2 b2 => ?_
 have B2 := Lh (Aa B1.out b2)
 clear b2
 go_wp2_with fail
 refine Bm (CX.out _) fun w3 b3 => ?_
 have B3 := Lh (Aa B2.out b3)
 clear b3
 go_wp2_with fail
 refine Bm (CL.out _) fun w4 b4 => ?_
 have B4 := Lh (Aa B3.out b4)
 clear b4
 go_wp2_with fail
 refine Sm (CN.out _) ?_
 go_wp2
 go_ret
 exact ⟨rfl, B4.out⟩
theorem Li (s t b u : ByteArray) (x y : Nat) (n U : Int) (w : World)
  (CT : Hid (∀ W, Ct 76 #[.string s] (.string t) W))
  (CB : Hid (∀ W, Ct 75 #[.string t] (.string b) W))
  (CX : Hid (∀ W, Ct 77 #[.string b] (.tuple #[.float .f64 x, .bool false]) W))
  (CL : Hid (∀ W, Ct 78 #[.string u] (.tuple #[.int .i64 n, .float .f64 y]) W)) (t0 : ((b.size : Int) == 0) = false) (hs : b.size ≤ 281474976710656) (g0 : 0 < b.size) (h0 : (b[0]'g0).toNat = 45)
  (hu : (b.extract 1 b.size) = u) (hus : (u.size : Int) = U) (ti : (u.toList == [73, 110, 102, 105, 110, 105, 116, 121]) = false) (t1 : (n == 0) = false) (t2 : (n != U) = false) :
  Ct 51 #[.string s] (.float .f64 (Aiq y)) w := by
 have B0 := Lh (Below.refl w.heap.size w)
 have a0 : (b.size : Int) ≤ 281474976710656 := by omega
 have a1 : (0 : Int) < (b.size : Int) := by omega
 have a2 : (1 : Int) ≤ (b.size : Int) := by omega
 have e0 : ((b[0]'g0).toNat : Int) = 45 := by rw [h0]; rfl
 have r3 : ∀ W, (Op.unary UnOp.neg (.float .f64 y)).run Tryz.prog W = .ok (.float .f64 (Aiq y)) W := fun W => rfl
 clear hs h0
 go_enter Tryz.func51, Tryz.ntmps51
 go_wp2_with fail
 refine Bm (CT.out _) fun w1 b1 => ?_
 have B1 := Lh (Aa B0.out b1)
 clear b1
 go_wp2_with fail
 refine Bm (CB.out _) fun w2 b2 => ?_
 have B2 := Lh (Aa B1.out b2)
 clear b2
 go_wp2_with fail
 refine Bm (CX.out _) fun w3 b3 => ?_
 have B3 := Lh (Aa B2.out b3)
 clear b3
 go_wp2_with fail
 refine Bm (CL.out _) fun w4 b4 => ?_
 have B4 := Lh (Aa B3.out b4)
 clear b4
 go_wp2
 go_ret
 exact ⟨rfl, B4.out⟩
theorem Qo (s t b u : ByteArray) (x y : Nat) (n : Int) (w : World)
  (CT : Hid (∀ W, Ct 76 #[.string s] (.string t) W))
  (CB : Hid (∀ W, Ct 75 #[.string t] (.string b) W))
  (CX : Hid (∀ W, Ct 77 #[.string b] (.tuple #[.float .f64 x, .bool false]) W))
  (CL : Hid (∀ W, Ct 78 #[.string u] (.tuple #[.int .i64 n, .float .f64 y]) W)) (t0 : ((b.size : Int) == 0) = false) (hs : b.size ≤ 281474976710656) (g0 : 0 < b.size) (h0 : (b[0]'g0).toNat = 43)
  (hu : (b.extract 1 b.size) = u) (ti : (u.toList == [73, 110, 102, 105, 110, 105, 116, 121]) = true) :
  Ct 51 #[.string s] (.float .f64 9218868437227405312) w := by
 have B0 := Lh (Below.refl w.heap.size w)
 have a0 : (b.size : Int) ≤ 281474976710656 := by omega
 have a1 : (0 : Int) < (b.size : Int) := by omega
 have a2 : (1 : Int) ≤ (b.size : Int) := by omega
 have e0 : ((b[0]'g0).toNat : Int) = 43 := by rw [h0]; rfl
 have CI := Lh (fun W => Dr W)
 clear hs h0
 go_enter Tryz.func51, Tryz.ntmps51
 go_wp2_with fail
 refine Bm (CT.out _) fun w1 b1 => ?_
 have B1 := Lh (Aa B0.out b1)
 clear b1
 go_wp2_with fail
 refine Bm (CB.out _) fun w2 b2 => ?_
 have B2 := Lh (Aa B1.out b2)
 clear b2
 go_wp2_with fail
 refine Bm (CX.out _) fun w3 b3 => ?_
 have B3 := Lh (Aa B2.out b3)
 clear b3
 go_wp2_with fail
 refine Bm (CL.out _) fun w4 b4 => ?_
 have B4 := Lh (Aa B3.out b4)
 clear b4
 go_wp2_with fail
 refine Sm (CI.out _) ?_
 go_wp2
 go_ret
 exact ⟨rfl, B4.out⟩
theorem Nh (s t b u : ByteArray) (x y : Nat) (n : Int) (w : World)
  (CT : Hid (∀ W, Ct 76 #[.string s] (.string t) W))
  (CB : Hid (∀ W, Ct 75 #[.string t] (.string b) W))
  (CX : Hid (∀ W, Ct 77 #[.string b] (.tuple #[.float .f64 x, .bool false]) W))
  (CL : Hid (∀ W, Ct 78 #[.string u] (.tuple #[.int .i64 n, .float .f64 y]) W)) (t0 : ((b.size : Int) == 0) = false) (hs : b.size ≤ 281474976710656) (g0 : 0 < b.size) (h0 : (b[0]'g0).toNat = 43)
  (hu : (b.extract 1 b.size) = u) (ti : (u.toList == [73, 110, 102, 105, 110, 105, 116, 121]) = false) (t1 : (n == 0) = true) :
  Ct 51 #[.string s] (.float .f64 Me) w := by
 have B0 := Lh (Below.refl w.heap.size w)
 have a0 : (b.size : Int) ≤ 281474976710656 := by omega
 have a1 : (0 : Int) < (b.size : Int) := by omega
 have a2 : (1 : Int) ≤ (b.size : Int) := by omega
 have e0 : ((b[0]'g0).toNat : Int) = 43 := by rw [h0]; rfl
 have CN := Lh (fun W => Gt W)
 clear hs h0
 go_enter Tryz.func51, Tryz.ntmps51
 go_wp2_with fail
 refine Bm (CT.out _) fun w1 b1 => ?_
 have B1 := Lh (Aa B0.out b1)
 clear b1
 go_wp2_with fail
 refine Bm (CB.out _) fun w2 b2 => ?_
 have B2 := Lh (Aa B1.out b2)
 clear b2
 go_wp2_with fail
 refine Bm (CX.out _) fun w3 b3 => ?_
 have B3 := Lh (Aa B2.out b3)
 clear b3
 go_wp2_with fail
 refine Bm (CL.out _) fun w4 b4 => ?_
 have B4 := Lh (Aa B3.out b4)
 clear b4
 go_wp2_with fail
 refine Sm (CN.out _) ?_
 go_wp2
 go_ret
 exact ⟨rfl, B4.out⟩
theorem N7 (s t b u : ByteArray) (x y : Nat) (n U : Int) (w : World)
  (CT : Hid (∀ W, Ct 76 #[.string s] (.string t) W))
  (CB : Hid (∀ W, Ct 75 #[.string t] (.string b) W))
  (CX : Hid (∀ W, Ct 77 #[.string b] (.tuple #[.float .f64 x, .bool false]) W))
  (CL : Hid (∀ W, Ct 78 #[.string u] (.tuple #[.int .i64 n, .float .f64 y]) W)) (t0 : ((b.size : Int) == 0) = false) (hs : b.size ≤ 281474976710656) (g0 : 0 < b.size) (h0 : (b[0]'g0).toNat = 43)
  (hu : (b.extract 1 b.size) = u) (hus : (u.size : Int) = U) (ti : (u.toList == [73, 110, 102, 105, 110, 105, 116, 121]) = false) (t1 : (n == 0) = false) (t2 : (n != U) = true) :
  Ct 51 #[.string s] (.float .f64 Me) w := by
 have B0 := Lh (Below.refl w.heap.size w)
 have a0 : (b.size : Int) ≤ 281474976710656 := by omega
 have a1 : (0 : Int) < (b.size : Int) := by omega
 have a2 : (1 : Int) ≤ (b.size : Int) := by omega
 have e0 : ((b[0]'g0).toNat : Int) = 43 := by rw [h0]; rfl
 have CN := Lh (fun W => Gt W)
 clear hs h0
 go_enter Tryz.func51, Tryz.ntmps51
 go_wp2_with fail
 refine Bm (CT.out _) fun w1 b1 => ?_
 have B1 := Lh (Aa B0.out b1)
 clear b1
 go_wp2_with fail
 refine Bm (CB.out _) fun w2 b2 => ?_
 have B2 := Lh (Aa B1.out b2)
 clear b2
 go_wp2_with fail
 refine Bm (CX.out _) fun w3 b3 => ?_
 have B3 := Lh (Aa B2.out b3)
 clear b3
 go_wp2_with fail
 refine Bm (CL.out _) fun w4 b4 => ?_
 have B4 := Lh (Aa B3.out b4)
 clear b4
 go_wp2_with fail
 refine Sm (CN.out _) ?_
 go_wp2
 go_ret
 exact ⟨rfl, B4.out⟩
theorem Mf (s t b u : ByteArray) (x y : Nat) (n U : Int) (w : World)
  (CT : Hid (∀ W, Ct 76 #[.string s] (.string t) W))
  (CB : Hid (∀ W, Ct 75 #[.string t] (.string b) W))
  (CX : Hid (∀ W, Ct 77 #[.string b] (.tuple #[.float .f64 x, .bool false]) W))
  (CL : Hid (∀ W, Ct 78 #[.string u] (.tuple #[.int .i64 n, .float .f64 y]) W)) (t0 : ((b.size : Int) == 0) = false) (hs : b.size ≤ 281474976710656) (g0 : 0 < b.size) (h0 : (b[0]'g0).toNat = 43)
  (hu : (b.extract 1 b.size) = u) (hus : (u.size : Int) = U) (ti : (u.toList == [73, 110, 102, 105, 110, 105, 116, 121]) = false) (t1 : (n == 0) = false) (t2 : (n != U) = false) :
  Ct 51 #[.string s] (.float .f64 y) w := by
 have B0 := Lh (Below.refl w.heap.size w)
 have a0 : (b.size : Int) ≤ 281474976710656 := by omega
 have a1 : (0 : Int) < (b.size : Int) := by omega
 have a2 : (1 : Int) ≤ (b.size : Int) := by omega
 have e0 : ((b[0]'g0).toNat : Int) = 43 := by rw [h0]; rfl
 clear hs h0
 go_enter Tryz.func51, Tryz.ntmps51
 go_wp2_with fail
 refine Bm (CT.out _) fun w1 b1 => ?_
 have B1 := Lh (Aa B0.out b1)
 clear b1
 go_wp2_with fail
 refine Bm (CB.out _) fun w2 b2 => ?_
 have B2 := Lh (Aa B1.out b2)
 clear b2
 go_wp2_with fail
 refine Bm (CX.out _) fun w3 b3 => ?_
 have B3 := Lh (Aa B2.out b3)
 clear b3
 go_wp2_with fail
 refine Bm (CL.out _) fun w4 b4 => ?_
 have B4 := Lh (Aa B3.out b4)
 clear b4
 go_wp2
 go_ret
 exact ⟨rfl, B4.out⟩
theorem Ou (s t b : ByteArray) (x y B : Nat) (n : Int) (w : World)
  (CT : Hid (∀ W, Ct 76 #[.string s] (.string t) W))
  (CB : Hid (∀ W, Ct 75 #[.string t] (.string b) W))
  (CX : Hid (∀ W, Ct 77 #[.string b] (.tuple #[.float .f64 x, .bool false]) W))
  (CL : Hid (∀ W, Ct 78 #[.string b] (.tuple #[.int .i64 n, .float .f64 y]) W)) (hs : b.size ≤ 281474976710656) (g0 : 0 < b.size) (h0 : (b[0]'g0).toNat = B) (n1 : B ≠ 45) (n2 : B ≠ 43) (ti : (b.toList == [73, 110, 102, 105, 110, 105, 116, 121]) = true) :
  Ct 51 #[.string s] (.float .f64 9218868437227405312) w := by
 have B0 := Lh (Below.refl w.heap.size w)
 have a0 : (b.size : Int) ≤ 281474976710656 := by omega
 have a1 : (0 : Int) < (b.size : Int) := by omega
 have a2 : (1 : Int) ≤ (b.size : Int) := by omega
 have e0 : ((b[0]'g0).toNat : Int) = (B : Int) := by rw [h0]
 have e1 : ((B : Int) == 45) = false := by rw [beq_eq_false_iff_ne]; omega
 have e2 : ((B : Int) == 43) = false := by rw [beq_eq_false_iff_ne]; omega
 clear n1 n2
 have CI := Lh (fun W => Dr W)
 clear hs h0
 go_enter Tryz.func51, Tryz.ntmps51
 go_wp2_with fail
 refine Bm (CT.out _) fun w1 b1 => ?_
 have B1 := Lh (Aa B0.out b1)
 clear b1
 go_wp2_with fail
 refine Bm (CB.out _) fun w2 b2 => ?_
 have B2 := Lh (Aa B1.out b2)
 clear b2
 go_wp2_with fail
 refine Bm (CX.out _) fun w3 b3 => ?_
 have B3 := Lh (Aa B2.out b3)
 clear b3
 go_wp2_with fail
 refine Bm (CL.out _) fun w4 b4 => ?_
 have B4 := Lh (Aa B3.out b4)
 clear b4
 go_wp2_with fail
 refine Sm (CI.out _) ?_
 go_wp2
 go_ret
 exact ⟨rfl, B4.out⟩
theorem Ma (s t b : ByteArray) (x y B : Nat) (n : Int) (w : World)
  (CT : Hid (∀ W, Ct 76 #[.string s] (.string t) W))
  (CB : Hid (∀ W, Ct 75 #[.string t] (.string b) W))
  (CX : Hid (∀ W, Ct 77 #[.string b] (.tuple #[.float .f64 x, .bool false]) W))
  (CL : Hid (∀ W, Ct 78 #[.string b] (.tuple #[.int .i64 n, .float .f64 y]) W)) (hs : b.size ≤ 281474976710656) (g0 : 0 < b.size) (h0 : (b[0]'g0).toNat = B) (n1 : B ≠ 45) (n2 : B ≠ 43) (ti : (b.toList == [73, 110, 102, 105, 110, 105, 116, 121]) = false) (t1 : (n == 0) = true) :
  Ct 51 #[.string s] (.float .f64 Me) w := by
 have B0 := Lh (Below.refl w.heap.size w)
 have a0 : (b.size : Int) ≤ 281474976710656 := by omega
 have a1 : (0 : Int) < (b.size : Int) := by omega
 have a2 : (1 : Int) ≤ (b.size : Int) := by omega
 have e0 : ((b[0]'g0).toNat : Int) = (B : Int) := by rw [h0]
 have e1 : ((B : Int) == 45) = false := by rw [beq_eq_false_iff_ne]; omega
 have e2 : ((B : Int) == 43) = false := by rw [beq_eq_false_iff_ne]; omega
 clear n1 n2
 have CN := Lh (fun W => Gt W)
 clear hs h0
 go_enter Tryz.func51, Tryz.ntmps51
 go_wp2_with fail
 refine Bm (CT.out _) fun w1 b1 => ?_
 have B1 := Lh (Aa B0.out b1)
 clear b1
 go_wp2_with fail
 refine Bm (CB.out _) fun w2 b2 => ?_
 have B2 := Lh (Aa B1.out b2)
 clear b2
 go_wp2_with fail
 refine Bm (CX.out _) fun w3 b3 => ?_
 have B3 := Lh (Aa B2.out b3)
 clear b3
 go_wp2_with fail
 refine Bm (CL.out _) fun w4 b4 => ?_
 have B4 := Lh (Aa B3.out b4)
 clear b4
 go_wp2_with fail
 refine Sm (CN.out _) ?_
 go_wp2
 go_ret
 exact ⟨rfl, B4.out⟩
theorem Mq (s t b : ByteArray) (x y B : Nat) (n U : Int) (w : World)
  (CT : Hid (∀ W, Ct 76 #[.string s] (.string t) W))
  (CB : Hid (∀ W, Ct 75 #[.string t] (.string b) W))
  (CX : Hid (∀ W, Ct 77 #[.string b] (.tuple #[.float .f64 x, .bool false]) W))
  (CL : Hid (∀ W, Ct 78 #[.string b] (.tuple #[.int .i64 n, .float .f64 y]) W)) (hs : b.size ≤ 281474976710656) (g0 : 0 < b.size) (h0 : (b[0]'g0).toNat = B) (n1 : B ≠ 45) (n2 : B ≠ 43) (hus : (b.size : Int) = U) (ti : (b.toList == [73, 110, 102, 105, 110, 105, 116, 121]) = false) (t1 : (n == 0) = false) (t2 : (n != U) = true) :
  Ct 51 #[.string s] (.float .f64 Me) w := by
 have B0 := Lh (Below.refl w.heap.size w)
 have a0 : (b.size : Int) ≤ 281474976710656 := by omega
 have a1 : (0 : Int) < (b.size : Int) := by omega
 have a2 : (1 : Int) ≤ (b.size : Int) := by omega
 have e0 : ((b[0]'g0).toNat : Int) = (B : Int) := by rw [h0]
 have e1 : ((B : Int) == 45) = false := by rw [beq_eq_false_iff_ne]; omega
 have e2 : ((B : Int) == 43) = false := by rw [beq_eq_false_iff_ne]; omega
 clear n1 n2
 have CN := Lh (fun W => Gt W)
 clear hs h0
 go_enter Tryz.func51, Tryz.ntmps51
 go_wp2_with fail
 refine Bm (CT.out _) fun w1 b1 => ?_
 have B1 := Lh (Aa B0.out b1)
 clear b1
 go_wp2_with fail
 refine Bm (CB.out _) fun w2 b2 => ?_
 have B2 := Lh (Aa B1.out b2)
 clear b2
 go_wp2_with fail
 refine Bm (CX.out _) fun w3 b3 => ?_
 have B3 := Lh (Aa B2.out b3)
 clear b3
 go_wp2_with fail
 refine Bm (CL.out _) fun w4 b4 => ?_
 have B4 := Lh (Aa B3.out b4)
 clear b4
 go_wp2_with fail
 refine Sm (CN.out _) ?_
 go_wp2
 go_ret
 exact ⟨rfl, B4.out⟩
theorem Kr (s t b : ByteArray) (x y B : Nat) (n U : Int) (w : World)
  (CT : Hid (∀ W, Ct 76 #[.string s] (.string t) W))
  (CB : Hid (∀ W, Ct 75 #[.string t] (.string b) W))
  (CX : Hid (∀ W, Ct 77 #[.string b] (.tuple #[.float .f64 x, .bool false]) W))
  (CL : Hid (∀ W, Ct 78 #[.string b] (.tuple #[.int .i64 n, .float .f64 y]) W)) (hs : b.size ≤ 281474976710656) (g0 : 0 < b.size) (h0 : (b[0]'g0).toNat = B) (n1 : B ≠ 45) (n2 : B ≠ 43) (hus : (b.size : Int) = U) (ti : (b.toList == [73, 110, 102, 105, 110, 105, 116, 121]) = false) (t1 : (n == 0) = false) (t2 : (n != U) = false) :
  Ct 51 #[.string s] (.float .f64 y) w := by
 have B0 := Lh (Below.refl w.heap.size w)
 have a0 : (b.size : Int) ≤ 281474976710656 := by omega
 have a1 : (0 : Int) < (b.size : Int) := by omega
 have a2 : (1 : Int) ≤ (b.size : Int) := by omega
 have e0 : ((b[0]'g0).toNat : Int) = (B : Int) := by rw [h0]
 have e1 : ((B : Int) == 45) = false := by rw [beq_eq_false_iff_ne]; omega
 have e2 : ((B : Int) == 43) = false := by rw [beq_eq_false_iff_ne]; omega
 clear n1 n2
 clear hs h0
 go_enter Tryz.func51, Tryz.ntmps51
 go_wp2_with fail
 refine Bm (CT.out _) fun w1 b1 => ?_
 have B1 := Lh (Aa B0.out b1)
 clear b1
 go_wp2_with fail
 refine Bm (CB.out _) fun w2 b2 => ?_
 have B2 := Lh (Aa B1.out b2)
 clear b2
 go_wp2_with fail
 refine Bm (CX.out _) fun w3 b3 => ?_
 have B3 := Lh (Aa B2.out b3)
 clear b3
 go_wp2_with fail
 refine Bm (CL.out _) fun w4 b4 => ?_
 have B4 := Lh (Aa B3.out b4)
 clear b4
 go_wp2
 go_ret
 exact ⟨rfl, B4.out⟩
end
section
theorem Aa5 {r : Nat} (h : r < 9223372036854775808) : Aiq r = sgW true r := by
 have key : r ^^^ 9223372036854775808 = 2 ^ 63 * 1 + r := by
  rw [show (9223372036854775808 : Nat) = 2 ^ 63 from rfl] at h ⊢
  apply Nat.eq_of_testBit_eq
  intro j
  rw [Nat.testBit_xor, Nat.testBit_two_pow, Nat.testBit_two_pow_mul_add _ h]
  by_cases hj : j < 63
  ·rw [if_pos hj, decide_eq_false (by omega), Bool.xor_false]
  ·rw [if_neg hj]
   obtain ⟨i, rfl⟩ : ∃ i, j = 63 + i := ⟨j - 63, by omega⟩
   rw [Nat.add_sub_cancel_left, Nat.testBit_lt_two_pow (Nat.lt_of_lt_of_le h (Nat.pow_le_pow_right (by omega) (by omega)))]
   cases i with
   | zero => rfl
   | succ i => rw [decide_eq_false (by omega)]; simp [Nat.testBit_succ]
 exact key
theorem Alh (T : List Nat) : (exR T).length ≤ T.length := by
 unfold exR
 split
 ·unfold Ql
  have h1 := Cs (Bj T.tail)
  have h2 : (Bj T.tail).length ≤ T.length := by
   unfold Bj
   split
   ·rw [List.length_tail, List.length_tail]; omega
   ·rw [List.length_tail]; omega
  omega
 ·exact Nat.le_refl _
theorem Ajg (l : List Nat) : (dR l).length + (dW l).length + (dF l).length ≤ l.length := by
 have h1 := Cs l
 have h2 := Alh (dT l)
 have h3 := Cs (Aj l).tail
 rw [List.length_tail] at h3
 unfold dR dW
 unfold dT at h2 ⊢
 unfold dF
 split
 ·next h =>
  rw [if_pos h] at h2
  omega
 ·next h =>
  rw [if_neg h] at h2
  simp only [List.length_nil]
  omega
theorem Y6 {l : List Nat} (h : dB l = true) : lgN l = l.length - (dR l).length ∧ 0 < lgN l ∧ lgV l = dV l := by
 have h1 := Ajg l
 have h2 : 0 < (dW l).length + (dF l).length := by
  unfold dB at h
  cases hw : dW l with
  | nil =>
   cases hf : dF l with
   | nil => rw [hw, hf] at h; simp at h
   | cons => simp
  | cons => simp; omega
 unfold lgN lgV
 rw [if_pos h, if_pos h]
 exact ⟨rfl, by omega, rfl⟩
theorem Aoy {l : List Nat} (h : dB l = false) : lgN l = 0 ∧ lgV l = 0 := by
 unfold lgN lgV
 rw [h]
 exact ⟨rfl, rfl⟩
theorem Am1 {l : List Nat} (h : dB l = true) : lgN l = l.length ↔ dR l = [] := by
 obtain ⟨h1, _, _⟩ := Y6 h
 have h2 := Ajg l
 rw [h1]
 constructor
 ·intro e
  exact List.length_eq_zero_iff.1 (by have := (Y6 h).2.1; omega)
 ·intro e
  rw [e, List.length_nil, Nat.sub_zero]
theorem Il {u : List Nat} (hu : ∀ c ∈ u, c < 256) : ((Ab u).toList == [73, 110, 102, 105, 110, 105, 116, 121]) = decide (u = infL) := by
 rw [Bool.eq_iff_iff, beq_iff_eq, decide_eq_true_iff]
 constructor
 ·intro h
  rw [Lib.toList_data] at h
  have h2 := congrArg (List.map UInt8.toNat) h
  have h3 : (Ab u).data.toList.map UInt8.toNat = u := Ak hu
  rw [h3] at h2
  exact h2
 ·intro h
  rw [h, Lib.toList_data]
  rfl
theorem Afw {s : ByteArray} (h : s.size ≤ 140737488355328) : (nrw 1 (us s)).length ≤ 70368744177664 := by
 rw [Ab9, Fx]
 have := Gp s
 omega
theorem Amd (l : List Nat) (h0 : l ≠ []) (hx : hxB l = false) : H8 l = if Bj l = infL then sgW (Eh l) 9218868437227405312 else if lgN (Bj l) = 0 ∨ lgN (Bj l) ≠ (Bj l).length then Me else sgW (Eh l) (lgV (Bj l)) := by
 unfold H8
 rw [if_neg h0, hx, if_neg (by simp)]
 split
 ·rfl
 ·cases hd : dB (Bj l)
  ·rw [(Aoy hd).1, if_pos (Or.inl rfl), if_neg (by simp)]
  ·obtain ⟨h1, h2, h3⟩ := Y6 hd
   have h4 := Am1 hd
   by_cases hr : dR (Bj l) = []
   ·rw [if_pos ⟨rfl, hr⟩, if_neg (by rw [not_or]; exact ⟨by omega, by simpa using h4.2 hr⟩), h3]
   ·rw [if_neg (fun h => hr h.2), if_pos (Or.inr (fun h => hr (h4.1 h)))]
theorem Xt (s : ByteArray) (w : World) (hs : s.size ≤ 140737488355328) :
  Ct 51 #[.string s] (.float .f64 (H8 (nrw 1 (us (Dj s))))) w := by
 have ht := Vw s
 have hl := Ah9 (z := 1) (by omega) (us (Dj s))
 have hln := Afw (s := Dj s) (by omega)
 have CT : Hid (∀ W, Ct 76 #[.string s] (.string (Dj s)) W) := Lh (fun W => (Ae5 s W (by unfold maxLen; omega)).mono (by
  rintro e w' ⟨rfl, n, rfl⟩
  exact ⟨rfl, Ad (Below.refl _ _) n⟩))
 have CB := Lh (fun W => Aau (Dj s) W (by omega))
 obtain ⟨l, hll⟩ : ∃ l, nrw 1 (us (Dj s)) = l := ⟨_, rfl⟩
 rw [hll] at CB hl hln ⊢
 have h256 : ∀ c ∈ l, c < 256 := fun c hc => by have := hl c hc; omega
 have hb := Ak h256
 have hz := Ah l
 have CX := fun W => Aii (Ab l) W (by omega)
 rw [hb] at CX
 cases l with
 | nil =>
  have := Ajp s _ (Ab []) w CT CB (by rw [hz]; rfl)
  exact this
 | cons c q =>
  have t0 : (((Ab (c :: q)).size : Int) == 0) = false := by rw [hz, beq_eq_false_iff_ne, List.length_cons]; omega
  have g0 : 0 < (Ab (c :: q)).size := by rw [hz, List.length_cons]; omega
  have b0 := C0 _ 0 g0
  rw [hb] at b0
  have e0 : c = ((Ab (c :: q))[0]'g0).toNat := Option.some.inj b0
  have hzs : (Ab (c :: q)).size ≤ 281474976710656 := by omega
  cases hx : hxB (c :: q)
  ·rw [hx] at CX
   rw [Amd _ (by simp) hx]
   have hq : ∀ d ∈ q, d < 256 := fun d hd => h256 d (List.mem_cons_of_mem _ hd)
   have hext : (Ab (c :: q)).extract 1 (Ab (c :: q)).size = Ab q := by
    rw [Ge, hb]
    rfl
   have hzq := Ah q
   rw [List.length_cons] at hln hz
   have CLq := Lh (fun W => Kd (Ab q) W (by omega))
   have CLl := Lh (fun W => Kd (Ab (c :: q)) W (by omega))
   rw [Ak hq] at CLq
   rw [hb] at CLl
   have fin : ∀ u, lgV u < 9223372036854775808 := fun u => by
    unfold lgV dV
    split
    ·have := Ut (num 10 (dW u ++ dF u)) (dX u - (dF u).length)
     omega
    ·omega
   by_cases c1 : c = 45
   ·subst c1
    have hu : Bj (45 :: q) = q := rfl
    have hsg : Eh (45 :: q) = true := rfl
    rw [hu, hsg]
    by_cases hi : q = infL
    ·rw [if_pos hi, ← Aa5 (by omega)]
     exact Oe (CT := CT) (CB := CB) (CX := Lh CX) (CL := CLq) (t0 := t0) (hs := hzs) (g0 := g0) (h0 := e0.symm) (hu := hext) (ti := by rw [Il hq]; exact decide_eq_true hi) (w := w)
    ·rw [if_neg hi]
     have ti : ((Ab q).toList == [73, 110, 102, 105, 110, 105, 116, 121]) = false := by rw [Il hq]; exact decide_eq_false hi
     by_cases n0 : lgN q = 0
     ·rw [if_pos (Or.inl n0)]
      exact Mn (CT := CT) (CB := CB) (CX := Lh CX) (CL := CLq) (t0 := t0) (hs := hzs) (g0 := g0) (h0 := e0.symm) (hu := hext) (ti := ti) (t1 := by rw [beq_iff_eq]; omega) (w := w)
     ·have t1 : (((lgN q : Nat) : Int) == 0) = false := by rw [beq_eq_false_iff_ne]; omega
      by_cases n1 : lgN q = q.length
      ·rw [if_neg (by rw [not_or]; exact ⟨n0, by simpa using n1⟩), ← Aa5 (fin q)]
       exact Li (CT := CT) (CB := CB) (CX := Lh CX) (CL := CLq) (t0 := t0) (hs := hzs) (g0 := g0) (h0 := e0.symm) (hu := hext) (hus := rfl) (ti := ti) (t1 := t1) (t2 := by rw [bne_eq_false_iff_eq]; omega) (w := w)
      ·rw [if_pos (Or.inr n1)]
       exact L9 (CT := CT) (CB := CB) (CX := Lh CX) (CL := CLq) (t0 := t0) (hs := hzs) (g0 := g0) (h0 := e0.symm) (hu := hext) (hus := rfl) (ti := ti) (t1 := t1) (t2 := by rw [bne_iff_ne]; omega) (w := w)
   ·by_cases c2 : c = 43
    ·subst c2
     have hu : Bj (43 :: q) = q := rfl
     have hsg : ∀ r, sgW (Eh (43 :: q)) r = r := fun _ => rfl
     rw [hu, hsg, hsg]
     by_cases hi : q = infL
     ·rw [if_pos hi]
      exact Qo (CT := CT) (CB := CB) (CX := Lh CX) (CL := CLq) (t0 := t0) (hs := hzs) (g0 := g0) (h0 := e0.symm) (hu := hext) (ti := by rw [Il hq]; exact decide_eq_true hi) (w := w)
     ·rw [if_neg hi]
      have ti : ((Ab q).toList == [73, 110, 102, 105, 110, 105, 116, 121]) = false := by rw [Il hq]; exact decide_eq_false hi
      by_cases n0 : lgN q = 0
      ·rw [if_pos (Or.inl n0)]
       exact Nh (CT := CT) (CB := CB) (CX := Lh CX) (CL := CLq) (t0 := t0) (hs := hzs) (g0 := g0) (h0 := e0.symm) (hu := hext) (ti := ti) (t1 := by rw [beq_iff_eq]; omega) (w := w)
      ·have t1 : (((lgN q : Nat) : Int) == 0) = false := by rw [beq_eq_false_iff_ne]; omega
       by_cases n1 : lgN q = q.length
       ·rw [if_neg (by rw [not_or]; exact ⟨n0, by simpa using n1⟩)]
        exact Mf (CT := CT) (CB := CB) (CX := Lh CX) (CL := CLq) (t0 := t0) (hs := hzs) (g0 := g0) (h0 := e0.symm) (hu := hext) (hus := rfl) (ti := ti) (t1 := t1) (t2 := by rw [bne_eq_false_iff_eq]; omega) (w := w)
       ·rw [if_pos (Or.inr n1)]
        exact N7 (CT := CT) (CB := CB) (CX := Lh CX) (CL := CLq) (t0 := t0) (hs := hzs) (g0 := g0) (h0 := e0.symm) (hu := hext) (hus := rfl) (ti := ti) (t1 := t1) (t2 := by rw [bne_iff_ne]; omega) (w := w)
    ·have hu : Bj (c :: q) = c :: q := by unfold Bj; rw [if_neg (by simp [c1, c2])]
     have hsg : ∀ r, sgW (Eh (c :: q)) r = r := fun r => by
      unfold Eh
      rw [List.head?_cons, beq_eq_false_iff_ne.2 (fun e => c1 (Option.some.inj e))]
      rfl
     rw [hu, hsg, hsg]
     by_cases hi : c :: q = infL
     ·rw [if_pos hi]
      exact Ou (CT := CT) (CB := CB) (CX := Lh CX) (CL := CLl) (hs := hzs) (g0 := g0) (h0 := e0.symm) (n1 := c1) (n2 := c2) (ti := by rw [Il h256]; exact decide_eq_true hi) (w := w)
     ·rw [if_neg hi]
      have ti : ((Ab (c :: q)).toList == [73, 110, 102, 105, 110, 105, 116, 121]) = false := by rw [Il h256]; exact decide_eq_false hi
      by_cases n0 : lgN (c :: q) = 0
      ·rw [if_pos (Or.inl n0)]
       exact Ma (CT := CT) (CB := CB) (CX := Lh CX) (CL := CLl) (hs := hzs) (g0 := g0) (h0 := e0.symm) (n1 := c1) (n2 := c2) (ti := ti) (t1 := by rw [beq_iff_eq]; omega) (w := w)
      ·have t1 : (((lgN (c :: q) : Nat) : Int) == 0) = false := by rw [beq_eq_false_iff_ne]; omega
       by_cases n1 : lgN (c :: q) = (c :: q).length
       ·rw [if_neg (by rw [not_or]; exact ⟨n0, by simpa using n1⟩)]
        exact Kr (CT := CT) (CB := CB) (CX := Lh CX) (CL := CLl) (hs := hzs) (g0 := g0) (h0 := e0.symm) (n1 := c1) (n2 := c2) (hus := rfl) (ti := ti) (t1 := t1) (t2 := by rw [bne_eq_false_iff_eq, hz, n1, List.length_cons]) (w := w)
       ·rw [if_pos (Or.inr n1)]
        exact Mq (CT := CT) (CB := CB) (CX := Lh CX) (CL := CLl) (hs := hzs) (g0 := g0) (h0 := e0.symm) (n1 := c1) (n2 := c2) (hus := rfl) (ti := ti) (t1 := t1) (t2 := by rw [bne_iff_ne, hz]; rw [List.length_cons] at n1; omega) (w := w)
  ·rw [hx, if_pos rfl] at CX
   have hN : H8 (c :: q) = Fs 16 ((c :: q).drop 2) := by
    unfold H8
    rw [if_neg (by simp), hx, if_pos rfl]
   rw [hN]
   exact Af4 (CT := CT) (CB := CB) (CX := Lh CX) (t0 := t0) (w := w)
end
section
theorem TxQ.bd {x : Nat} {L : List Nat} (h : TxQ x L) : (∀ c ∈ L, c < 256) ∧ L.length ≤ 2000 := by
 have hs : (∀ c ∈ sgx x, c < 256) ∧ (sgx x).length ≤ 1 := by
  unfold sgx
  split <;> simp
 rcases h with ⟨h1, rfl⟩ | ⟨h1, h2, rfl⟩ | ⟨h1, h2, l, h3, rfl⟩
 ·exact ⟨by simp, by simp⟩
 ·refine ⟨?_, by rw [List.length_append]; have : infL.length = 8 := rfl; omega⟩
  intro c hc
  rw [List.mem_append] at hc
  rcases hc with hc | hc
  ·exact hs.1 c hc
  ·exact (by decide : ∀ c ∈ infL, c < 256) c hc
 ·obtain ⟨l1, l2⟩ := PlQ.bd (O3 h1 h2) h3
  refine ⟨?_, by rw [List.length_append]; omega⟩
  intro c hc
  rw [List.mem_append] at hc
  rcases hc with hc | hc
  ·exact hs.1 c hc
  ·exact l1 c hc
end
section
theorem Acd (L : List Nat) (w : World) (hL : (L.all fun c => decide (c < 256)) = true) (hl : L.length ≤ 100000) : Ct 43 #[.string (Ab L)] (.string (wdS L)) w :=
 Ac7 L w (fun c hc => by simpa using List.all_eq_true.1 hL c hc) hl
theorem Nf (L : List Nat) (w : World) (hL : (L.all fun c => decide (c < 256)) = true) (hl : L.length ≤ 100000) : Ct 52 #[.string (Ab L)] (.string (wdS L)) w :=
 Fw L w (fun c hc => by simpa using List.all_eq_true.1 hL c hc) hl
theorem Xv  (w : World) : Ct 23 #[.agg #[.int .i64 0, .bool false, .float .f64 0, .string ⟨#[]⟩, .int .i64 0]] (.tuple #[.float .f64 9221120237041090560, .int .i64 0]) w := by
 have C1 := Lh (fun W => Us W)
 go_enter Tryz.func23, Tryz.ntmps23
 go_wp2_with fail
 refine Sm (C1.out _) ?_
 go_wp2
 go_ret2
 exact ⟨rfl, As _ _⟩
theorem Vq  (w : World) : Ct 23 #[.agg #[.int .i64 1, .bool false, .float .f64 0, .string ⟨#[]⟩, .int .i64 0]] (.tuple #[.float .f64 0, .int .i64 0]) w := by
 go_enter Tryz.func23, Tryz.ntmps23
 go_wp2
 go_ret2
 exact ⟨rfl, As _ _⟩
theorem Ss  (w : World) : Ct 23 #[.agg #[.int .i64 2, .bool true, .float .f64 0, .string ⟨#[]⟩, .int .i64 0]] (.tuple #[.float .f64 4607182418800017408, .int .i64 0]) w := by
 go_enter Tryz.func23, Tryz.ntmps23
 go_wp2
 go_ret2
 exact ⟨rfl, As _ _⟩
theorem T7  (w : World) : Ct 23 #[.agg #[.int .i64 2, .bool false, .float .f64 0, .string ⟨#[]⟩, .int .i64 0]] (.tuple #[.float .f64 0, .int .i64 0]) w := by
 go_enter Tryz.func23, Tryz.ntmps23
 go_wp2
 go_ret2
 exact ⟨rfl, As _ _⟩
theorem Xb (n : Nat) (w : World) : Ct 23 #[.agg #[.int .i64 3, .bool false, .float .f64 n, .string ⟨#[]⟩, .int .i64 0]] (.tuple #[.float .f64 (cn n), .int .i64 0]) w := by
 have C1 := Lh (fun W => Ka n W)
 have hf := fun W => Amo 3 false (cn n) ⟨#[]⟩ 0 W
 go_enter Tryz.func23, Tryz.ntmps23
 go_wp2_with fail
 refine (C1.out _).mono ?_
 rintro e w2 ⟨rfl, b2, hk⟩
 go_wp2
 go_ret2
 exact ⟨rfl, Aa (As _ _) b2⟩
theorem Ur (s : ByteArray) (hs : s.size ≤ 140737488355328) (w : World) : Ct 23 #[.agg #[.int .i64 4, .bool false, .float .f64 0, .string s, .int .i64 0]] (.tuple #[.float .f64 (H8 (nrw 0 (us (Dj s)))), .int .i64 0]) w := by
 have C1 := fun W => Xt s W hs
 rw [Am5] at C1
 have C1 := Lh C1
 clear hs
 go_enter Tryz.func23, Tryz.ntmps23
 go_wp2_with fail
 refine Bm (C1.out _) fun w2 b2 => ?_
 go_wp2
 go_ret2
 exact ⟨rfl, Aa (As _ _) b2⟩
theorem Wq (o : Int) (w : World) : Ct 23 #[.agg #[.int .i64 5, .bool false, .float .f64 0, .string ⟨#[]⟩, .int .i64 o]] (.tuple #[.float .f64 0, .int .i64 1]) w := by
 go_enter Tryz.func23, Tryz.ntmps23
 go_wp2
 go_ret2
 exact ⟨rfl, As _ _⟩
def It (v : Val) : Int := if Al v = true then 0 else 1
theorem Ap {v : Val} (h : Ba v = true) (hs : v.vs.size ≤ 140737488355328) (w : World) : Ct 23 #[Am v] (.tuple #[.float .f64 (At v), .int .i64 (It v)]) w := by
 rcases Eq h with rfl | rfl | ⟨b, rfl⟩ | ⟨n, _, rfl⟩ | ⟨s, _, rfl⟩ | ⟨o, _, rfl⟩
 ·exact Xv w
 ·exact Vq w
 ·cases b
  ·exact T7 w
  ·exact Ss w
 ·exact Xb n w
 ·exact Ur s hs w
 ·exact Wq o w
end
section
theorem Al2 (x y t : Nat) : Ck ((Question.nanBits .f64 x y).cut t) = true ∧ (Question.nanBits .f64 x y).cut t < 18446744073709551616 := by
 show Ck (t % 2 * 2 ^ 63 + 0x7ff0000000000000 + 1 + t / 2 % (2 ^ 52 - 1)) = true ∧ t % 2 * 2 ^ 63 + 0x7ff0000000000000 + 1 + t / 2 % (2 ^ 52 - 1) < _
 have h1 : t / 2 % (2 ^ 52 - 1) < 2 ^ 52 - 1 := Nat.mod_lt _ (by omega)
 have h2 : t % 2 < 2 := Nat.mod_lt _ (by omega)
 obtain ⟨a, ha⟩ : ∃ a, t / 2 % (2 ^ 52 - 1) = a := ⟨_, rfl⟩
 obtain ⟨b, hb⟩ : ∃ b, t % 2 = b := ⟨_, rfl⟩
 rw [ha] at h1 ⊢
 rw [hb] at h2 ⊢
 unfold Ck Bq
 refine ⟨decide_eq_true ?_, ?_⟩ <;> omega
theorem Alm {x : Nat} (h : Ck x = true) : cn x = 9221120237041090560 := by unfold cn; rw [if_pos h]
def Alc (x y : Nat) : Nat := match Ieee.double.add x y with
 | some r => cn r
 | none => 9221120237041090560
theorem Ai9 (x y : Nat) (w : World) (h : Ieee.double.add x y = none) : ∃ r, (∀ t, (binOp .add t (.float .f64 x) (.float .f64 y)).run Tryz.prog w = .ok (.float .f64 r) (w.drewN 1)) ∧ Ck r = true ∧ r < 18446744073709551616 := by
 have h2 : FloatKind.f64.format.add x y = none := h
 have hf : (Question.nanBits .f64 x y).forced = false := rfl
 exact ⟨(Question.nanBits .f64 x y).cut (w.tape w.drawn (.nanBits .f64 x y)), fun t => by simp [binOp, Op.floatArith, h2, hf]; rfl, Al2 _ _ _⟩
theorem Aj9 (x y : Nat) (w : World) : ∃ r n, (∀ t, (binOp .add t (.float .f64 x) (.float .f64 y)).run Tryz.prog w = .ok (.float .f64 r) (w.drewN n)) ∧ cn r = Alc x y := by
 unfold Alc
 cases h : Ieee.double.add x y with
 | some r => exact ⟨r, 0, fun t => run_float_arith w .add t .f64 x y r h, rfl⟩
 | none =>
  obtain ⟨r, h1, h2, _⟩ := Ai9 x y w h
  exact ⟨r, 1, h1, Alm h2⟩
end
section
def vZ : Val := ⟨0, false, 0, ⟨#[]⟩, 0⟩
theorem Fz : (#[.int .i64 0, .bool false, .float .f64 0, .string ⟨#[]⟩, .int .i64 0] : Array Value) = Af vZ := rfl
theorem Ci (v : Val) (w : World) : Ct 59 #[Am v] (.bool (Cc v)) w := by
 unfold Cc
 obtain ⟨K, hK⟩ : ∃ b, (v.vk == 0) = b := ⟨_, rfl⟩
 obtain ⟨J, hJ⟩ : ∃ b, (v.vk == 1) = b := ⟨_, rfl⟩
 rw [hK, hJ]
 unfold Am
 cases K
 ·skip
  go_enter Tryz.func59, Tryz.ntmps59
  go_wp2
  go_ret
  exact ⟨by simp, As _ _⟩
 ·skip
  go_enter Tryz.func59, Tryz.ntmps59
  go_wp2
  go_ret
  exact ⟨by simp, As _ _⟩
theorem Lx (x y : Val) (w : World) : Ct 36 #[Am x, Am y] (.bool (Dy x y)) w := by
 have C1 := fun W => No x y W
 have C2 := Lh (fun W => Gc x.vn y.vn W)
 unfold Dy
 obtain ⟨O, hO⟩ : ∃ B, oeq x.vn y.vn = B := ⟨_, rfl⟩
 obtain ⟨A, hA⟩ : ∃ B, Ga x y = B := ⟨_, rfl⟩
 obtain ⟨K, hK⟩ : ∃ B, (x.vk == y.vk) = B := ⟨_, rfl⟩
 rw [hO, hA, hK]
 rw [hA] at C1
 rw [hO] at C2
 clear hA hO
 have e_x := show Am x = .agg (Af x) from rfl
 have e_y := show Am y = .agg (Af y) from rfl
 rw [e_x, e_y] at C1 ⊢
 clear e_x e_y
 have C1 := Lh C1
 cases K
 ·clear C1 C2
  go_enter Tryz.func36, Tryz.ntmps36
  go_upto_region 1 with fail
  obtain ⟨W1, hW1⟩ : ∃ W1, w.alloc (.cells (Af x) 24) = W1 := ⟨_, rfl⟩
  rw [hW1]
  obtain ⟨W2, hW2⟩ : ∃ W2, W1.alloc (.cells (Af y) 24) = W2 := ⟨_, rfl⟩
  have HS := Lh (T2.new hW1 hW2)
  obtain ⟨a0, a1, a2, a3, a4, d0, d1, d2, d3, d4⟩ := HS.out.cs
  rw [hW2]
  clear hW1 hW2
  go_wp2
  go_ret
  exact ⟨by simp, HS.out.b⟩
 ·cases A
  ·clear C2
   go_enter Tryz.func36, Tryz.ntmps36
   go_upto_region 1 with fail
   obtain ⟨W1, hW1⟩ : ∃ W1, w.alloc (.cells (Af x) 24) = W1 := ⟨_, rfl⟩
   rw [hW1]
   obtain ⟨W2, hW2⟩ : ∃ W2, W1.alloc (.cells (Af y) 24) = W2 := ⟨_, rfl⟩
   have HS := Lh (T2.new hW1 hW2)
   obtain ⟨a0, a1, a2, a3, a4, d0, d1, d2, d3, d4⟩ := HS.out.cs
   rw [hW2]
   clear hW1 hW2
   go_wp2_with (first | (refine ldX (k := 11) HS.out.k rfl (by kernel_rfl) rfl rfl ?_) | (refine ldX (k := 12) HS.out.k2 rfl (by kernel_rfl) rfl rfl ?_))
   with_reducible refine Bm (C1.out _) fun w2 b2 => ?_
   have HT := HS; clear HS
   have HS := Lh (HT.out.step b2)
   clear HT b2 a0 a1 a2 a3 a4 d0 d1 d2 d3 d4
   obtain ⟨a0, a1, a2, a3, a4, d0, d1, d2, d3, d4⟩ := HS.out.cs
   go_wp2
   go_ret
   exact ⟨by simp, HS.out.b⟩
  ·skip
   go_enter Tryz.func36, Tryz.ntmps36
   go_upto_region 1 with fail
   obtain ⟨W1, hW1⟩ : ∃ W1, w.alloc (.cells (Af x) 24) = W1 := ⟨_, rfl⟩
   rw [hW1]
   obtain ⟨W2, hW2⟩ : ∃ W2, W1.alloc (.cells (Af y) 24) = W2 := ⟨_, rfl⟩
   have HS := Lh (T2.new hW1 hW2)
   obtain ⟨a0, a1, a2, a3, a4, d0, d1, d2, d3, d4⟩ := HS.out.cs
   rw [hW2]
   clear hW1 hW2
   go_wp2_with (first | (refine ldX (k := 11) HS.out.k rfl (by kernel_rfl) rfl rfl ?_) | (refine ldX (k := 12) HS.out.k2 rfl (by kernel_rfl) rfl rfl ?_))
   with_reducible refine Bm (C1.out _) fun w2 b2 => ?_
   have HT := HS; clear HS
   have HS := Lh (HT.out.step b2)
   clear HT b2 a0 a1 a2 a3 a4 d0 d1 d2 d3 d4
   obtain ⟨a0, a1, a2, a3, a4, d0, d1, d2, d3, d4⟩ := HS.out.cs
   go_wp2_with fail
   refine Sm (C2.out _) ?_
   go_wp2
   go_ret
   exact ⟨by simp, HS.out.b⟩
theorem Wp (x y : Val) (w : World) (hK : (x.vk == y.vk) = true) : Ct 32 #[Am x, Am y] (.tuple #[.bool (Dy x y), .int .i64 0]) w := by
 have C1 := fun W => Lx x y W
 have e_x := show Am x = .agg (Af x) from rfl
 have e_y := show Am y = .agg (Af y) from rfl
 rw [e_x, e_y] at C1 ⊢
 clear e_x e_y
 have C1 := Lh C1
 go_enter Tryz.func32, Tryz.ntmps32
 go_upto_region 1 with fail
 obtain ⟨W1, hW1⟩ : ∃ W1, w.alloc (.cells (Af x) 24) = W1 := ⟨_, rfl⟩
 rw [hW1]
 obtain ⟨W2, hW2⟩ : ∃ W2, W1.alloc (.cells (Af y) 24) = W2 := ⟨_, rfl⟩
 have HS := Lh (T2.new hW1 hW2)
 obtain ⟨a0, a1, a2, a3, a4, d0, d1, d2, d3, d4⟩ := HS.out.cs
 rw [hW2]
 clear hW1 hW2
 go_wp2_with (first | (refine ldX (k := 15) HS.out.k rfl (by kernel_rfl) rfl rfl ?_) | (refine ldX (k := 16) HS.out.k2 rfl (by kernel_rfl) rfl rfl ?_))
 with_reducible refine Bm (C1.out _) fun w2 b2 => ?_
 have HT := HS; clear HS
 have HS := Lh (HT.out.step b2)
 clear HT b2 a0 a1 a2 a3 a4 d0 d1 d2 d3 d4
 obtain ⟨a0, a1, a2, a3, a4, d0, d1, d2, d3, d4⟩ := HS.out.cs
 go_wp2
 go_ret2
 exact ⟨rfl, HS.out.b⟩
theorem Ac4 (x y : Val) (w : World) (hK : (x.vk == y.vk) = false) (h1 : Cc x = true) (h2 : Cc y = true) : Ct 32 #[Am x, Am y] (.tuple #[.bool true, .int .i64 0]) w := by
 have N1 := fun W => Ci x W
 have N2 := fun W => Ci y W
 rw [h1] at N1
 rw [h2] at N2
 clear h1 h2
 have e_x := show Am x = .agg (Af x) from rfl
 have e_y := show Am y = .agg (Af y) from rfl
 rw [e_x] at N1 ⊢
 rw [e_y] at N2 ⊢
 clear e_x e_y
 have N1 := Lh N1
 have N2 := Lh N2
 go_enter Tryz.func32, Tryz.ntmps32
 go_upto_region 1 with fail
 obtain ⟨W1, hW1⟩ : ∃ W1, w.alloc (.cells (Af x) 24) = W1 := ⟨_, rfl⟩
 rw [hW1]
 obtain ⟨W2, hW2⟩ : ∃ W2, W1.alloc (.cells (Af y) 24) = W2 := ⟨_, rfl⟩
 have HS := Lh (T2.new hW1 hW2)
 obtain ⟨a0, a1, a2, a3, a4, d0, d1, d2, d3, d4⟩ := HS.out.cs
 rw [hW2]
 clear hW1 hW2
 go_wp2_with (first | (refine ldX (k := 18) HS.out.k rfl (by kernel_rfl) rfl rfl ?_))
 with_reducible refine Bm (N1.out _) fun w2 b2 => ?_
 have HT := HS; clear HS
 have HS := Lh (HT.out.step b2)
 clear HT b2 a0 a1 a2 a3 a4 d0 d1 d2 d3 d4
 obtain ⟨a0, a1, a2, a3, a4, d0, d1, d2, d3, d4⟩ := HS.out.cs
 go_wp2_with (first | (refine ldX (k := 24) HS.out.k rfl (by kernel_rfl) rfl rfl ?_))
 with_reducible refine Bm (N1.out _) fun w2 b2 => ?_
 have HT := HS; clear HS
 have HS := Lh (HT.out.step b2)
 clear HT b2 a0 a1 a2 a3 a4 d0 d1 d2 d3 d4
 obtain ⟨a0, a1, a2, a3, a4, d0, d1, d2, d3, d4⟩ := HS.out.cs
 go_wp2_with (first | (refine ldX (k := 27) HS.out.k2 rfl (by kernel_rfl) rfl rfl ?_))
 with_reducible refine Bm (N2.out _) fun w2 b2 => ?_
 have HT := HS; clear HS
 have HS := Lh (HT.out.step b2)
 clear HT b2 a0 a1 a2 a3 a4 d0 d1 d2 d3 d4
 obtain ⟨a0, a1, a2, a3, a4, d0, d1, d2, d3, d4⟩ := HS.out.cs
 go_wp2
 go_ret2
 exact ⟨rfl, HS.out.b⟩
theorem Ad6 (x y : Val) (w : World) (hK : (x.vk == y.vk) = false) (h1 : Cc x = true) (h2 : Cc y = false) : Ct 32 #[Am x, Am y] (.tuple #[.bool false, .int .i64 0]) w := by
 have N1 := fun W => Ci x W
 have N2 := fun W => Ci y W
 rw [h1] at N1
 rw [h2] at N2
 clear h1 h2
 have e_x := show Am x = .agg (Af x) from rfl
 have e_y := show Am y = .agg (Af y) from rfl
 rw [e_x] at N1 ⊢
 rw [e_y] at N2 ⊢
 clear e_x e_y
 have N1 := Lh N1
 have N2 := Lh N2
 go_enter Tryz.func32, Tryz.ntmps32
 go_upto_region 1 with fail
 obtain ⟨W1, hW1⟩ : ∃ W1, w.alloc (.cells (Af x) 24) = W1 := ⟨_, rfl⟩
 rw [hW1]
 obtain ⟨W2, hW2⟩ : ∃ W2, W1.alloc (.cells (Af y) 24) = W2 := ⟨_, rfl⟩
 have HS := Lh (T2.new hW1 hW2)
 obtain ⟨a0, a1, a2, a3, a4, d0, d1, d2, d3, d4⟩ := HS.out.cs
 rw [hW2]
 clear hW1 hW2
 go_wp2_with (first | (refine ldX (k := 18) HS.out.k rfl (by kernel_rfl) rfl rfl ?_))
 with_reducible refine Bm (N1.out _) fun w2 b2 => ?_
 have HT := HS; clear HS
 have HS := Lh (HT.out.step b2)
 clear HT b2 a0 a1 a2 a3 a4 d0 d1 d2 d3 d4
 obtain ⟨a0, a1, a2, a3, a4, d0, d1, d2, d3, d4⟩ := HS.out.cs
 go_wp2_with (first | (refine ldX (k := 24) HS.out.k rfl (by kernel_rfl) rfl rfl ?_))
 with_reducible refine Bm (N1.out _) fun w2 b2 => ?_
 have HT := HS; clear HS
 have HS := Lh (HT.out.step b2)
 clear HT b2 a0 a1 a2 a3 a4 d0 d1 d2 d3 d4
 obtain ⟨a0, a1, a2, a3, a4, d0, d1, d2, d3, d4⟩ := HS.out.cs
 go_wp2_with (first | (refine ldX (k := 27) HS.out.k2 rfl (by kernel_rfl) rfl rfl ?_))
 with_reducible refine Bm (N2.out _) fun w2 b2 => ?_
 have HT := HS; clear HS
 have HS := Lh (HT.out.step b2)
 clear HT b2 a0 a1 a2 a3 a4 d0 d1 d2 d3 d4
 obtain ⟨a0, a1, a2, a3, a4, d0, d1, d2, d3, d4⟩ := HS.out.cs
 go_wp2
 go_ret2
 exact ⟨rfl, HS.out.b⟩
theorem Ael (x y : Val) (w : World) (hK : (x.vk == y.vk) = false) (h1 : Cc x = false) (h2 : Cc y = true) : Ct 32 #[Am x, Am y] (.tuple #[.bool false, .int .i64 0]) w := by
 have N1 := fun W => Ci x W
 have N2 := fun W => Ci y W
 rw [h1] at N1
 rw [h2] at N2
 clear h1 h2
 have e_x := show Am x = .agg (Af x) from rfl
 have e_y := show Am y = .agg (Af y) from rfl
 rw [e_x] at N1 ⊢
 rw [e_y] at N2 ⊢
 clear e_x e_y
 have N1 := Lh N1
 have N2 := Lh N2
 go_enter Tryz.func32, Tryz.ntmps32
 go_upto_region 1 with fail
 obtain ⟨W1, hW1⟩ : ∃ W1, w.alloc (.cells (Af x) 24) = W1 := ⟨_, rfl⟩
 rw [hW1]
 obtain ⟨W2, hW2⟩ : ∃ W2, W1.alloc (.cells (Af y) 24) = W2 := ⟨_, rfl⟩
 have HS := Lh (T2.new hW1 hW2)
 obtain ⟨a0, a1, a2, a3, a4, d0, d1, d2, d3, d4⟩ := HS.out.cs
 rw [hW2]
 clear hW1 hW2
 go_wp2_with (first | (refine ldX (k := 18) HS.out.k rfl (by kernel_rfl) rfl rfl ?_))
 with_reducible refine Bm (N1.out _) fun w2 b2 => ?_
 have HT := HS; clear HS
 have HS := Lh (HT.out.step b2)
 clear HT b2 a0 a1 a2 a3 a4 d0 d1 d2 d3 d4
 obtain ⟨a0, a1, a2, a3, a4, d0, d1, d2, d3, d4⟩ := HS.out.cs
 go_wp2_with (first | (refine ldX (k := 21) HS.out.k2 rfl (by kernel_rfl) rfl rfl ?_))
 with_reducible refine Bm (N2.out _) fun w2 b2 => ?_
 have HT := HS; clear HS
 have HS := Lh (HT.out.step b2)
 clear HT b2 a0 a1 a2 a3 a4 d0 d1 d2 d3 d4
 obtain ⟨a0, a1, a2, a3, a4, d0, d1, d2, d3, d4⟩ := HS.out.cs
 go_wp2_with (first | (refine ldX (k := 24) HS.out.k rfl (by kernel_rfl) rfl rfl ?_))
 with_reducible refine Bm (N1.out _) fun w2 b2 => ?_
 have HT := HS; clear HS
 have HS := Lh (HT.out.step b2)
 clear HT b2 a0 a1 a2 a3 a4 d0 d1 d2 d3 d4
 obtain ⟨a0, a1, a2, a3, a4, d0, d1, d2, d3, d4⟩ := HS.out.cs
 go_wp2
 go_ret2
 exact ⟨rfl, HS.out.b⟩
theorem Aeu (x y : Val) (w : World) (mx : Ba x = true) (my : Ba y = true) (sx : x.vs.size ≤ 140737488355328) (sy : y.vs.size ≤ 140737488355328) (hK : (x.vk == y.vk) = false) (h1 : Cc x = false) (h2 : Cc y = false) (g1 : Al x = true) (g2 : Al y = true) :
  Ct 32 #[Am x, Am y] (.tuple #[.bool (oeq (At x) (At y)), .int .i64 0]) w := by
 have N1 := fun W => Ci x W
 have N2 := fun W => Ci y W
 have M1 := fun W => Ap mx sx W
 have M2 := fun W => Ap my sy W
 have CE := Lh (fun W => Gc (At x) (At y) W)
 rw [h1] at N1
 rw [h2] at N2
 unfold It at M1 M2
 rw [g1] at M1
 rw [g2] at M2
 rw [if_pos rfl] at M1
 rw [if_pos rfl] at M2
 obtain ⟨n, hn⟩ : ∃ n, At x = n := ⟨_, rfl⟩
 obtain ⟨m, hm⟩ : ∃ n, At y = n := ⟨_, rfl⟩
 rw [hn] at M1 CE ⊢
 rw [hm] at M2 CE ⊢
 clear h1 h2 mx my sx sy g1 g2 hn hm
 have e_x := show Am x = .agg (Af x) from rfl
 have e_y := show Am y = .agg (Af y) from rfl
 rw [e_x] at N1 M1 ⊢
 rw [e_y] at N2 M2 ⊢
 clear e_x e_y
 have N1 := Lh N1
 have N2 := Lh N2
 have M1 := Lh M1
 have M2 := Lh M2
 go_enter Tryz.func32, Tryz.ntmps32
 go_upto_region 1 with fail
 obtain ⟨W1, hW1⟩ : ∃ W1, w.alloc (.cells (Af x) 24) = W1 := ⟨_, rfl⟩
 rw [hW1]
 obtain ⟨W2, hW2⟩ : ∃ W2, W1.alloc (.cells (Af y) 24) = W2 := ⟨_, rfl⟩
 have HS := Lh (T2.new hW1 hW2)
 obtain ⟨a0, a1, a2, a3, a4, d0, d1, d2, d3, d4⟩ := HS.out.cs
 rw [hW2]
 clear hW1 hW2
 go_wp2_with (first | (refine ldX (k := 18) HS.out.k rfl (by kernel_rfl) rfl rfl ?_))
 with_reducible refine Bm (N1.out _) fun w2 b2 => ?_
 have HT := HS; clear HS
 have HS := Lh (HT.out.step b2)
 clear HT b2 a0 a1 a2 a3 a4 d0 d1 d2 d3 d4
 obtain ⟨a0, a1, a2, a3, a4, d0, d1, d2, d3, d4⟩ := HS.out.cs
 go_wp2_with (first | (refine ldX (k := 21) HS.out.k2 rfl (by kernel_rfl) rfl rfl ?_))
 with_reducible refine Bm (N2.out _) fun w2 b2 => ?_
 have HT := HS; clear HS
 have HS := Lh (HT.out.step b2)
 clear HT b2 a0 a1 a2 a3 a4 d0 d1 d2 d3 d4
 obtain ⟨a0, a1, a2, a3, a4, d0, d1, d2, d3, d4⟩ := HS.out.cs
 go_wp2_with (first | (refine ldX (k := 31) HS.out.k rfl (by kernel_rfl) rfl rfl ?_))
 with_reducible refine Bm (M1.out _) fun w2 b2 => ?_
 have HT := HS; clear HS
 have HS := Lh (HT.out.step b2)
 clear HT b2 a0 a1 a2 a3 a4 d0 d1 d2 d3 d4
 obtain ⟨a0, a1, a2, a3, a4, d0, d1, d2, d3, d4⟩ := HS.out.cs
 go_wp2_with (first | (refine ldX (k := 36) HS.out.k2 rfl (by kernel_rfl) rfl rfl ?_))
 with_reducible refine Bm (M2.out _) fun w2 b2 => ?_
 have HT := HS; clear HS
 have HS := Lh (HT.out.step b2)
 clear HT b2 a0 a1 a2 a3 a4 d0 d1 d2 d3 d4
 obtain ⟨a0, a1, a2, a3, a4, d0, d1, d2, d3, d4⟩ := HS.out.cs
 go_wp2_with fail
 refine Sm (CE.out _) ?_
 go_wp2
 go_ret2
 exact ⟨rfl, HS.out.b⟩
theorem Adz (x y : Val) (w : World) (mx : Ba x = true) (my : Ba y = true) (sx : x.vs.size ≤ 140737488355328) (sy : y.vs.size ≤ 140737488355328) (hK : (x.vk == y.vk) = false) (h1 : Cc x = false) (h2 : Cc y = false) (g1 : Al x = false) (g2 : Al y = true) :
  Ct 32 #[Am x, Am y] (.tuple #[.bool false, .int .i64 1]) w := by
 have N1 := fun W => Ci x W
 have N2 := fun W => Ci y W
 have M1 := fun W => Ap mx sx W
 have M2 := fun W => Ap my sy W
 have CE := Lh (fun W => Gc (At x) (At y) W)
 rw [h1] at N1
 rw [h2] at N2
 unfold It at M1 M2
 rw [g1] at M1
 rw [g2] at M2
 rw [if_neg (by simp)] at M1
 rw [if_pos rfl] at M2
 obtain ⟨n, hn⟩ : ∃ n, At x = n := ⟨_, rfl⟩
 obtain ⟨m, hm⟩ : ∃ n, At y = n := ⟨_, rfl⟩
 rw [hn] at M1 CE
 rw [hm] at M2 CE
 clear h1 h2 mx my sx sy g1 g2 hn hm
 have e_x := show Am x = .agg (Af x) from rfl
 have e_y := show Am y = .agg (Af y) from rfl
 rw [e_x] at N1 M1 ⊢
 rw [e_y] at N2 M2 ⊢
 clear e_x e_y
 have N1 := Lh N1
 have N2 := Lh N2
 have M1 := Lh M1
 have M2 := Lh M2
 go_enter Tryz.func32, Tryz.ntmps32
 go_upto_region 1 with fail
 obtain ⟨W1, hW1⟩ : ∃ W1, w.alloc (.cells (Af x) 24) = W1 := ⟨_, rfl⟩
 rw [hW1]
 obtain ⟨W2, hW2⟩ : ∃ W2, W1.alloc (.cells (Af y) 24) = W2 := ⟨_, rfl⟩
 have HS := Lh (T2.new hW1 hW2)
 obtain ⟨a0, a1, a2, a3, a4, d0, d1, d2, d3, d4⟩ := HS.out.cs
 rw [hW2]
 clear hW1 hW2
 go_wp2_with (first | (refine ldX (k := 18) HS.out.k rfl (by kernel_rfl) rfl rfl ?_))
 with_reducible refine Bm (N1.out _) fun w2 b2 => ?_
 have HT := HS; clear HS
 have HS := Lh (HT.out.step b2)
 clear HT b2 a0 a1 a2 a3 a4 d0 d1 d2 d3 d4
 obtain ⟨a0, a1, a2, a3, a4, d0, d1, d2, d3, d4⟩ := HS.out.cs
 go_wp2_with (first | (refine ldX (k := 21) HS.out.k2 rfl (by kernel_rfl) rfl rfl ?_))
 with_reducible refine Bm (N2.out _) fun w2 b2 => ?_
 have HT := HS; clear HS
 have HS := Lh (HT.out.step b2)
 clear HT b2 a0 a1 a2 a3 a4 d0 d1 d2 d3 d4
 obtain ⟨a0, a1, a2, a3, a4, d0, d1, d2, d3, d4⟩ := HS.out.cs
 go_wp2_with (first | (refine ldX (k := 31) HS.out.k rfl (by kernel_rfl) rfl rfl ?_))
 with_reducible refine Bm (M1.out _) fun w2 b2 => ?_
 have HT := HS; clear HS
 have HS := Lh (HT.out.step b2)
 clear HT b2 a0 a1 a2 a3 a4 d0 d1 d2 d3 d4
 obtain ⟨a0, a1, a2, a3, a4, d0, d1, d2, d3, d4⟩ := HS.out.cs
 go_wp2_with (first | (refine ldX (k := 36) HS.out.k2 rfl (by kernel_rfl) rfl rfl ?_))
 with_reducible refine Bm (M2.out _) fun w2 b2 => ?_
 have HT := HS; clear HS
 have HS := Lh (HT.out.step b2)
 clear HT b2 a0 a1 a2 a3 a4 d0 d1 d2 d3 d4
 obtain ⟨a0, a1, a2, a3, a4, d0, d1, d2, d3, d4⟩ := HS.out.cs
 go_wp2
 go_ret2
 exact ⟨rfl, HS.out.b⟩
theorem Aco (x y : Val) (w : World) (mx : Ba x = true) (my : Ba y = true) (sx : x.vs.size ≤ 140737488355328) (sy : y.vs.size ≤ 140737488355328) (hK : (x.vk == y.vk) = false) (h1 : Cc x = false) (h2 : Cc y = false) (g1 : Al x = true) (g2 : Al y = false) :
  Ct 32 #[Am x, Am y] (.tuple #[.bool false, .int .i64 1]) w := by
 have N1 := fun W => Ci x W
 have N2 := fun W => Ci y W
 have M1 := fun W => Ap mx sx W
 have M2 := fun W => Ap my sy W
 have CE := Lh (fun W => Gc (At x) (At y) W)
 rw [h1] at N1
 rw [h2] at N2
 unfold It at M1 M2
 rw [g1] at M1
 rw [g2] at M2
 rw [if_pos rfl] at M1
 rw [if_neg (by simp)] at M2
 obtain ⟨n, hn⟩ : ∃ n, At x = n := ⟨_, rfl⟩
 obtain ⟨m, hm⟩ : ∃ n, At y = n := ⟨_, rfl⟩
 rw [hn] at M1 CE
 rw [hm] at M2 CE
 clear h1 h2 mx my sx sy g1 g2 hn hm
 have e_x := show Am x = .agg (Af x) from rfl
 have e_y := show Am y = .agg (Af y) from rfl
 rw [e_x] at N1 M1 ⊢
 rw [e_y] at N2 M2 ⊢
 clear e_x e_y
 have N1 := Lh N1
 have N2 := Lh N2
 have M1 := Lh M1
 have M2 := Lh M2
 go_enter Tryz.func32, Tryz.ntmps32
 go_upto_region 1 with fail
 obtain ⟨W1, hW1⟩ : ∃ W1, w.alloc (.cells (Af x) 24) = W1 := ⟨_, rfl⟩
 rw [hW1]
 obtain ⟨W2, hW2⟩ : ∃ W2, W1.alloc (.cells (Af y) 24) = W2 := ⟨_, rfl⟩
 have HS := Lh (T2.new hW1 hW2)
 obtain ⟨a0, a1, a2, a3, a4, d0, d1, d2, d3, d4⟩ := HS.out.cs
 rw [hW2]
 clear hW1 hW2
 go_wp2_with (first | (refine ldX (k := 18) HS.out.k rfl (by kernel_rfl) rfl rfl ?_))
 with_reducible refine Bm (N1.out _) fun w2 b2 => ?_
 have HT := HS; clear HS
 have HS := Lh (HT.out.step b2)
 clear HT b2 a0 a1 a2 a3 a4 d0 d1 d2 d3 d4
 obtain ⟨a0, a1, a2, a3, a4, d0, d1, d2, d3, d4⟩ := HS.out.cs
 go_wp2_with (first | (refine ldX (k := 21) HS.out.k2 rfl (by kernel_rfl) rfl rfl ?_))
 with_reducible refine Bm (N2.out _) fun w2 b2 => ?_
 have HT := HS; clear HS
 have HS := Lh (HT.out.step b2)
 clear HT b2 a0 a1 a2 a3 a4 d0 d1 d2 d3 d4
 obtain ⟨a0, a1, a2, a3, a4, d0, d1, d2, d3, d4⟩ := HS.out.cs
 go_wp2_with (first | (refine ldX (k := 31) HS.out.k rfl (by kernel_rfl) rfl rfl ?_))
 with_reducible refine Bm (M1.out _) fun w2 b2 => ?_
 have HT := HS; clear HS
 have HS := Lh (HT.out.step b2)
 clear HT b2 a0 a1 a2 a3 a4 d0 d1 d2 d3 d4
 obtain ⟨a0, a1, a2, a3, a4, d0, d1, d2, d3, d4⟩ := HS.out.cs
 go_wp2_with (first | (refine ldX (k := 36) HS.out.k2 rfl (by kernel_rfl) rfl rfl ?_))
 with_reducible refine Bm (M2.out _) fun w2 b2 => ?_
 have HT := HS; clear HS
 have HS := Lh (HT.out.step b2)
 clear HT b2 a0 a1 a2 a3 a4 d0 d1 d2 d3 d4
 obtain ⟨a0, a1, a2, a3, a4, d0, d1, d2, d3, d4⟩ := HS.out.cs
 go_wp2
 go_ret2
 exact ⟨rfl, HS.out.b⟩
theorem Ado (x y : Val) (w : World) (mx : Ba x = true) (my : Ba y = true) (sx : x.vs.size ≤ 140737488355328) (sy : y.vs.size ≤ 140737488355328) (hK : (x.vk == y.vk) = false) (h1 : Cc x = false) (h2 : Cc y = false) (g1 : Al x = false) (g2 : Al y = false) :
  Ct 32 #[Am x, Am y] (.tuple #[.bool false, .int .i64 1]) w := by
 have N1 := fun W => Ci x W
 have N2 := fun W => Ci y W
 have M1 := fun W => Ap mx sx W
 have M2 := fun W => Ap my sy W
 have CE := Lh (fun W => Gc (At x) (At y) W)
 rw [h1] at N1
 rw [h2] at N2
 unfold It at M1 M2
 rw [g1] at M1
 rw [g2] at M2
 rw [if_neg (by simp)] at M1
 rw [if_neg (by simp)] at M2
 obtain ⟨n, hn⟩ : ∃ n, At x = n := ⟨_, rfl⟩
 obtain ⟨m, hm⟩ : ∃ n, At y = n := ⟨_, rfl⟩
 rw [hn] at M1 CE
 rw [hm] at M2 CE
 clear h1 h2 mx my sx sy g1 g2 hn hm
 have e_x := show Am x = .agg (Af x) from rfl
 have e_y := show Am y = .agg (Af y) from rfl
 rw [e_x] at N1 M1 ⊢
 rw [e_y] at N2 M2 ⊢
 clear e_x e_y
 have N1 := Lh N1
 have N2 := Lh N2
 have M1 := Lh M1
 have M2 := Lh M2
 go_enter Tryz.func32, Tryz.ntmps32
 go_upto_region 1 with fail
 obtain ⟨W1, hW1⟩ : ∃ W1, w.alloc (.cells (Af x) 24) = W1 := ⟨_, rfl⟩
 rw [hW1]
 obtain ⟨W2, hW2⟩ : ∃ W2, W1.alloc (.cells (Af y) 24) = W2 := ⟨_, rfl⟩
 have HS := Lh (T2.new hW1 hW2)
 obtain ⟨a0, a1, a2, a3, a4, d0, d1, d2, d3, d4⟩ := HS.out.cs
 rw [hW2]
 clear hW1 hW2
 go_wp2_with (first | (refine ldX (k := 18) HS.out.k rfl (by kernel_rfl) rfl rfl ?_))
 with_reducible refine Bm (N1.out _) fun w2 b2 => ?_
 have HT := HS; clear HS
 have HS := Lh (HT.out.step b2)
 clear HT b2 a0 a1 a2 a3 a4 d0 d1 d2 d3 d4
 obtain ⟨a0, a1, a2, a3, a4, d0, d1, d2, d3, d4⟩ := HS.out.cs
 go_wp2_with (first | (refine ldX (k := 21) HS.out.k2 rfl (by kernel_rfl) rfl rfl ?_))
 with_reducible refine Bm (N2.out _) fun w2 b2 => ?_
 have HT := HS; clear HS
 have HS := Lh (HT.out.step b2)
 clear HT b2 a0 a1 a2 a3 a4 d0 d1 d2 d3 d4
 obtain ⟨a0, a1, a2, a3, a4, d0, d1, d2, d3, d4⟩ := HS.out.cs
 go_wp2_with (first | (refine ldX (k := 31) HS.out.k rfl (by kernel_rfl) rfl rfl ?_))
 with_reducible refine Bm (M1.out _) fun w2 b2 => ?_
 have HT := HS; clear HS
 have HS := Lh (HT.out.step b2)
 clear HT b2 a0 a1 a2 a3 a4 d0 d1 d2 d3 d4
 obtain ⟨a0, a1, a2, a3, a4, d0, d1, d2, d3, d4⟩ := HS.out.cs
 go_wp2_with (first | (refine ldX (k := 36) HS.out.k2 rfl (by kernel_rfl) rfl rfl ?_))
 with_reducible refine Bm (M2.out _) fun w2 b2 => ?_
 have HT := HS; clear HS
 have HS := Lh (HT.out.step b2)
 clear HT b2 a0 a1 a2 a3 a4 d0 d1 d2 d3 d4
 obtain ⟨a0, a1, a2, a3, a4, d0, d1, d2, d3, d4⟩ := HS.out.cs
 go_wp2
 go_ret2
 exact ⟨rfl, HS.out.b⟩
theorem Aar {x y : Val} (mx : Ba x = true) (my : Ba y = true) (sx : x.vs.size ≤ 140737488355328) (sy : y.vs.size ≤ 140737488355328) (w : World) : Ct 32 #[Am x, Am y] (.tuple #[.bool (Hx x y).1, .int .i64 (Hx x y).2]) w := by
 unfold Hx
 by_cases h : x.vk = y.vk
 ·rw [if_pos h]
  exact Wp x y w (by simpa using h)
 ·rw [if_neg h]
  have hK : (x.vk == y.vk) = false := by simpa using h
  cases h1 : Cc x
  ·cases h2 : Cc y
   ·rw [if_neg (by simp)]
    cases g1 : Al x
    ·cases g2 : Al y
     ·exact Ado x y w mx my sx sy hK h1 h2 g1 g2
     ·exact Adz x y w mx my sx sy hK h1 h2 g1 g2
    ·cases g2 : Al y
     ·exact Aco x y w mx my sx sy hK h1 h2 g1 g2
     ·exact Aeu x y w mx my sx sy hK h1 h2 g1 g2
   ·exact Ael x y w hK h1 h2
  ·cases h2 : Cc y
   ·exact Ad6 x y w hK h1 h2
   ·exact Ac4 x y w hK h1 h2
theorem Agp (x y : Val) (w : World) (mx : Ba x = true) (my : Ba y = true) (sx : x.vs.size ≤ 140737488355328) (sy : y.vs.size ≤ 140737488355328) (g1 : Al x = false) (g2 : Al y = true) :
  Ct 34 #[Am x, Am y] (.tuple #[.int .i64 0, .int .i64 1]) w := by
 have M1 := fun W => Ap mx sx W
 have M2 := fun W => Ap my sy W
 have CL := Lh (fun W => Gy (At x) (At y) W)
 have CC := Lh (fun W => En x.vs y.vs W (by unfold maxLen; omega) (by unfold maxLen; omega))
 unfold It at M1 M2
 rw [g1] at M1
 rw [g2] at M2
 rw [if_neg (by simp)] at M1
 rw [if_pos rfl] at M2
 obtain ⟨n, hn⟩ : ∃ n, At x = n := ⟨_, rfl⟩
 obtain ⟨m, hm⟩ : ∃ n, At y = n := ⟨_, rfl⟩
 rw [hn] at M1 CL
 rw [hm] at M2 CL
 clear mx my sx sy g1 g2 hn hm
 have e_x := show Am x = .agg (Af x) from rfl
 have e_y := show Am y = .agg (Af y) from rfl
 rw [e_x] at M1 ⊢
 rw [e_y] at M2 ⊢
 clear e_x e_y
 have M1 := Lh M1
 have M2 := Lh M2
 go_enter Tryz.func34, Tryz.ntmps34
 go_upto_region 1 with fail
 obtain ⟨W1, hW1⟩ : ∃ W1, w.alloc (.cells (Af x) 24) = W1 := ⟨_, rfl⟩
 rw [hW1]
 obtain ⟨W2, hW2⟩ : ∃ W2, W1.alloc (.cells (Af y) 24) = W2 := ⟨_, rfl⟩
 have HS := Lh (T2.new hW1 hW2)
 obtain ⟨a0, a1, a2, a3, a4, d0, d1, d2, d3, d4⟩ := HS.out.cs
 rw [hW2]
 clear hW1 hW2
 go_wp2_with (first | (refine ldX (k := 11) HS.out.k rfl (by kernel_rfl) rfl rfl ?_))
 with_reducible refine Bm (M1.out _) fun w2 b2 => ?_
 have HT := HS; clear HS
 have HS := Lh (HT.out.step b2)
 clear HT b2 a0 a1 a2 a3 a4 d0 d1 d2 d3 d4
 obtain ⟨a0, a1, a2, a3, a4, d0, d1, d2, d3, d4⟩ := HS.out.cs
 go_wp2_with (first | (refine ldX (k := 16) HS.out.k2 rfl (by kernel_rfl) rfl rfl ?_))
 with_reducible refine Bm (M2.out _) fun w2 b2 => ?_
 have HT := HS; clear HS
 have HS := Lh (HT.out.step b2)
 clear HT b2 a0 a1 a2 a3 a4 d0 d1 d2 d3 d4
 obtain ⟨a0, a1, a2, a3, a4, d0, d1, d2, d3, d4⟩ := HS.out.cs
 go_wp2
 go_ret2
 exact ⟨rfl, HS.out.b⟩
theorem Afq (x y : Val) (w : World) (mx : Ba x = true) (my : Ba y = true) (sx : x.vs.size ≤ 140737488355328) (sy : y.vs.size ≤ 140737488355328) (g1 : Al x = true) (g2 : Al y = false) :
  Ct 34 #[Am x, Am y] (.tuple #[.int .i64 0, .int .i64 1]) w := by
 have M1 := fun W => Ap mx sx W
 have M2 := fun W => Ap my sy W
 have CL := Lh (fun W => Gy (At x) (At y) W)
 have CC := Lh (fun W => En x.vs y.vs W (by unfold maxLen; omega) (by unfold maxLen; omega))
 unfold It at M1 M2
 rw [g1] at M1
 rw [g2] at M2
 rw [if_pos rfl] at M1
 rw [if_neg (by simp)] at M2
 obtain ⟨n, hn⟩ : ∃ n, At x = n := ⟨_, rfl⟩
 obtain ⟨m, hm⟩ : ∃ n, At y = n := ⟨_, rfl⟩
 rw [hn] at M1 CL
 rw [hm] at M2 CL
 clear mx my sx sy g1 g2 hn hm
 have e_x := show Am x = .agg (Af x) from rfl
 have e_y := show Am y = .agg (Af y) from rfl
 rw [e_x] at M1 ⊢
 rw [e_y] at M2 ⊢
 clear e_x e_y
 have M1 := Lh M1
 have M2 := Lh M2
 go_enter Tryz.func34, Tryz.ntmps34
 go_upto_region 1 with fail
 obtain ⟨W1, hW1⟩ : ∃ W1, w.alloc (.cells (Af x) 24) = W1 := ⟨_, rfl⟩
 rw [hW1]
 obtain ⟨W2, hW2⟩ : ∃ W2, W1.alloc (.cells (Af y) 24) = W2 := ⟨_, rfl⟩
 have HS := Lh (T2.new hW1 hW2)
 obtain ⟨a0, a1, a2, a3, a4, d0, d1, d2, d3, d4⟩ := HS.out.cs
 rw [hW2]
 clear hW1 hW2
 go_wp2_with (first | (refine ldX (k := 11) HS.out.k rfl (by kernel_rfl) rfl rfl ?_))
 with_reducible refine Bm (M1.out _) fun w2 b2 => ?_
 have HT := HS; clear HS
 have HS := Lh (HT.out.step b2)
 clear HT b2 a0 a1 a2 a3 a4 d0 d1 d2 d3 d4
 obtain ⟨a0, a1, a2, a3, a4, d0, d1, d2, d3, d4⟩ := HS.out.cs
 go_wp2_with (first | (refine ldX (k := 16) HS.out.k2 rfl (by kernel_rfl) rfl rfl ?_))
 with_reducible refine Bm (M2.out _) fun w2 b2 => ?_
 have HT := HS; clear HS
 have HS := Lh (HT.out.step b2)
 clear HT b2 a0 a1 a2 a3 a4 d0 d1 d2 d3 d4
 obtain ⟨a0, a1, a2, a3, a4, d0, d1, d2, d3, d4⟩ := HS.out.cs
 go_wp2
 go_ret2
 exact ⟨rfl, HS.out.b⟩
theorem Aiw (x y : Val) (w : World) (mx : Ba x = true) (my : Ba y = true) (sx : x.vs.size ≤ 140737488355328) (sy : y.vs.size ≤ 140737488355328) (g1 : Al x = false) (g2 : Al y = false) :
  Ct 34 #[Am x, Am y] (.tuple #[.int .i64 0, .int .i64 1]) w := by
 have M1 := fun W => Ap mx sx W
 have M2 := fun W => Ap my sy W
 have CL := Lh (fun W => Gy (At x) (At y) W)
 have CC := Lh (fun W => En x.vs y.vs W (by unfold maxLen; omega) (by unfold maxLen; omega))
 unfold It at M1 M2
 rw [g1] at M1
 rw [g2] at M2
 rw [if_neg (by simp)] at M1
 rw [if_neg (by simp)] at M2
 obtain ⟨n, hn⟩ : ∃ n, At x = n := ⟨_, rfl⟩
 obtain ⟨m, hm⟩ : ∃ n, At y = n := ⟨_, rfl⟩
 rw [hn] at M1 CL
 rw [hm] at M2 CL
 clear mx my sx sy g1 g2 hn hm
 have e_x := show Am x = .agg (Af x) from rfl
 have e_y := show Am y = .agg (Af y) from rfl
 rw [e_x] at M1 ⊢
 rw [e_y] at M2 ⊢
 clear e_x e_y
 have M1 := Lh M1
 have M2 := Lh M2
 go_enter Tryz.func34, Tryz.ntmps34
 go_upto_region 1 with fail
 obtain ⟨W1, hW1⟩ : ∃ W1, w.alloc (.cells (Af x) 24) = W1 := ⟨_, rfl⟩
 rw [hW1]
 obtain ⟨W2, hW2⟩ : ∃ W2, W1.alloc (.cells (Af y) 24) = W2 := ⟨_, rfl⟩
 have HS := Lh (T2.new hW1 hW2)
 obtain ⟨a0, a1, a2, a3, a4, d0, d1, d2, d3, d4⟩ := HS.out.cs
 rw [hW2]
 clear hW1 hW2
 go_wp2_with (first | (refine ldX (k := 11) HS.out.k rfl (by kernel_rfl) rfl rfl ?_))
 with_reducible refine Bm (M1.out _) fun w2 b2 => ?_
 have HT := HS; clear HS
 have HS := Lh (HT.out.step b2)
 clear HT b2 a0 a1 a2 a3 a4 d0 d1 d2 d3 d4
 obtain ⟨a0, a1, a2, a3, a4, d0, d1, d2, d3, d4⟩ := HS.out.cs
 go_wp2_with (first | (refine ldX (k := 16) HS.out.k2 rfl (by kernel_rfl) rfl rfl ?_))
 with_reducible refine Bm (M2.out _) fun w2 b2 => ?_
 have HT := HS; clear HS
 have HS := Lh (HT.out.step b2)
 clear HT b2 a0 a1 a2 a3 a4 d0 d1 d2 d3 d4
 obtain ⟨a0, a1, a2, a3, a4, d0, d1, d2, d3, d4⟩ := HS.out.cs
 go_wp2
 go_ret2
 exact ⟨rfl, HS.out.b⟩
theorem Ad0 (x y : Val) (w : World) (mx : Ba x = true) (my : Ba y = true) (sx : x.vs.size ≤ 140737488355328) (sy : y.vs.size ≤ 140737488355328) (g1 : Al x = true) (g2 : Al y = true) (K J : Bool) (hK : (x.vk == 4) = K) (hJ : (y.vk == 4) = J) (hKJ : (K && J) = false) :
  Ct 34 #[Am x, Am y] (.tuple #[.int .i64 (Iw (At x) (At y)), .int .i64 0]) w := by
 have M1 := fun W => Ap mx sx W
 have M2 := fun W => Ap my sy W
 have CL := Lh (fun W => Gy (At x) (At y) W)
 have CC := Lh (fun W => En x.vs y.vs W (by unfold maxLen; omega) (by unfold maxLen; omega))
 unfold It at M1 M2
 rw [g1] at M1
 rw [g2] at M2
 rw [if_pos rfl] at M1
 rw [if_pos rfl] at M2
 obtain ⟨n, hn⟩ : ∃ n, At x = n := ⟨_, rfl⟩
 obtain ⟨m, hm⟩ : ∃ n, At y = n := ⟨_, rfl⟩
 rw [hn] at M1 CL ⊢
 rw [hm] at M2 CL ⊢
 clear mx my sx sy g1 g2 hn hm
 have e_x := show Am x = .agg (Af x) from rfl
 have e_y := show Am y = .agg (Af y) from rfl
 rw [e_x] at M1 ⊢
 rw [e_y] at M2 ⊢
 clear e_x e_y
 have M1 := Lh M1
 have M2 := Lh M2
 go_enter Tryz.func34, Tryz.ntmps34
 go_upto_region 1 with fail
 obtain ⟨W1, hW1⟩ : ∃ W1, w.alloc (.cells (Af x) 24) = W1 := ⟨_, rfl⟩
 rw [hW1]
 obtain ⟨W2, hW2⟩ : ∃ W2, W1.alloc (.cells (Af y) 24) = W2 := ⟨_, rfl⟩
 have HS := Lh (T2.new hW1 hW2)
 obtain ⟨a0, a1, a2, a3, a4, d0, d1, d2, d3, d4⟩ := HS.out.cs
 rw [hW2]
 clear hW1 hW2
 go_wp2_with (first | (refine ldX (k := 11) HS.out.k rfl (by kernel_rfl) rfl rfl ?_))
 with_reducible refine Bm (M1.out _) fun w2 b2 => ?_
 have HT := HS; clear HS
 have HS := Lh (HT.out.step b2)
 clear HT b2 a0 a1 a2 a3 a4 d0 d1 d2 d3 d4
 obtain ⟨a0, a1, a2, a3, a4, d0, d1, d2, d3, d4⟩ := HS.out.cs
 go_wp2_with (first | (refine ldX (k := 16) HS.out.k2 rfl (by kernel_rfl) rfl rfl ?_))
 with_reducible refine Bm (M2.out _) fun w2 b2 => ?_
 have HT := HS; clear HS
 have HS := Lh (HT.out.step b2)
 clear HT b2 a0 a1 a2 a3 a4 d0 d1 d2 d3 d4
 obtain ⟨a0, a1, a2, a3, a4, d0, d1, d2, d3, d4⟩ := HS.out.cs
 cases K
 ·go_wp2_with fail
  with_reducible refine Sm (CL.out _) ?_
  go_wp2
  go_ret2
  exact ⟨rfl, HS.out.b⟩
 ·cases J
  ·go_wp2_with fail
   with_reducible refine Sm (CL.out _) ?_
   go_wp2
   go_ret2
   exact ⟨rfl, HS.out.b⟩
  ·exact absurd hKJ (by simp)
theorem Ae0 (x y : Val) (w : World) (mx : Ba x = true) (my : Ba y = true) (sx : x.vs.size ≤ 140737488355328) (sy : y.vs.size ≤ 140737488355328) (g1 : Al x = true) (g2 : Al y = true) (hK : (x.vk == 4) = true) (hJ : (y.vk == 4) = true) :
  Ct 34 #[Am x, Am y] (.tuple #[.int .i64 (if Gr (us x.vs) (us y.vs) < 0 then 1 else 0), .int .i64 0]) w := by
 have M1 := fun W => Ap mx sx W
 have M2 := fun W => Ap my sy W
 have CL := Lh (fun W => Gy (At x) (At y) W)
 have CC := Lh (fun W => En x.vs y.vs W (by unfold maxLen; omega) (by unfold maxLen; omega))
 unfold It at M1 M2
 rw [g1] at M1
 rw [g2] at M2
 rw [if_pos rfl] at M1
 rw [if_pos rfl] at M2
 obtain ⟨n, hn⟩ : ∃ n, At x = n := ⟨_, rfl⟩
 obtain ⟨m, hm⟩ : ∃ n, At y = n := ⟨_, rfl⟩
 rw [hn] at M1 CL
 rw [hm] at M2 CL
 clear mx my sx sy g1 g2 hn hm
 obtain ⟨c, hc0⟩ : ∃ c, Gr (us x.vs) (us y.vs) = c := ⟨_, rfl⟩
 rw [hc0] at CC ⊢
 obtain ⟨R, hR⟩ : ∃ R : Int, (if c < 0 then 1 else 0) = R := ⟨_, rfl⟩
 rw [hR]
 have HR := Lh hR
 clear hR hc0
 have e_x := show Am x = .agg (Af x) from rfl
 have e_y := show Am y = .agg (Af y) from rfl
 rw [e_x] at M1 ⊢
 rw [e_y] at M2 ⊢
 clear e_x e_y
 have M1 := Lh M1
 have M2 := Lh M2
 go_enter Tryz.func34, Tryz.ntmps34
 go_upto_region 1 with fail
 obtain ⟨W1, hW1⟩ : ∃ W1, w.alloc (.cells (Af x) 24) = W1 := ⟨_, rfl⟩
 rw [hW1]
 obtain ⟨W2, hW2⟩ : ∃ W2, W1.alloc (.cells (Af y) 24) = W2 := ⟨_, rfl⟩
 have HS := Lh (T2.new hW1 hW2)
 obtain ⟨a0, a1, a2, a3, a4, d0, d1, d2, d3, d4⟩ := HS.out.cs
 rw [hW2]
 clear hW1 hW2
 go_wp2_with (first | (refine ldX (k := 11) HS.out.k rfl (by kernel_rfl) rfl rfl ?_))
 with_reducible refine Bm (M1.out _) fun w2 b2 => ?_
 have HT := HS; clear HS
 have HS := Lh (HT.out.step b2)
 clear HT b2 a0 a1 a2 a3 a4 d0 d1 d2 d3 d4
 obtain ⟨a0, a1, a2, a3, a4, d0, d1, d2, d3, d4⟩ := HS.out.cs
 go_wp2_with (first | (refine ldX (k := 16) HS.out.k2 rfl (by kernel_rfl) rfl rfl ?_))
 with_reducible refine Bm (M2.out _) fun w2 b2 => ?_
 have HT := HS; clear HS
 have HS := Lh (HT.out.step b2)
 clear HT b2 a0 a1 a2 a3 a4 d0 d1 d2 d3 d4
 obtain ⟨a0, a1, a2, a3, a4, d0, d1, d2, d3, d4⟩ := HS.out.cs
 by_cases hc : c < 0
 ·rw [if_pos hc] at HR
  go_wp2_with fail
  with_reducible refine Dm (CC.out _) fun n4 => ?_
  go_wp2
  go_ret2
  exact ⟨by rw [← HR.out]; rfl, Ad HS.out.b _⟩
 ·rw [if_neg hc] at HR
  go_wp2_with fail
  with_reducible refine Dm (CC.out _) fun n4 => ?_
  go_wp2
  go_ret2
  exact ⟨by rw [← HR.out]; rfl, Ad HS.out.b _⟩
theorem Acn {x y : Val} (mx : Ba x = true) (my : Ba y = true) (sx : x.vs.size ≤ 140737488355328) (sy : y.vs.size ≤ 140737488355328) (w : World) : Ct 34 #[Am x, Am y] (.tuple #[.int .i64 (Lr x y).1, .int .i64 (Lr x y).2]) w := by
 unfold Lr
 cases g1 : Al x
 ·cases g2 : Al y
  ·exact Aiw x y w mx my sx sy g1 g2
  ·exact Agp x y w mx my sx sy g1 g2
 ·cases g2 : Al y
  ·exact Afq x y w mx my sx sy g1 g2
  ·rw [if_pos (show (true && true) = true from rfl)]
   by_cases h : x.vk = 4 ∧ y.vk = 4
   ·rw [if_pos h]
    exact Ae0 x y w mx my sx sy g1 g2 (by simpa using h.1) (by simpa using h.2)
   ·rw [if_neg h]
    refine Ad0 x y w mx my sx sy g1 g2 _ _ rfl rfl ?_
    rw [Bool.and_eq_false_iff]
    by_cases h1 : x.vk = 4
    ·right
     simpa using fun h2 => h ⟨h1, h2⟩
    ·left
     simpa using h1
end
section
noncomputable def An7 (x y : Val) : Ending :=
 if (Al x && Al y) = true then
  (if (x.vk == 4 || y.vk == 4) = true then .returned (.tuple #[Am (Jz (wh (El x ++ El y))), .int .i64 0]) else .returned (.tuple #[Am (Px (Alc (At x) (At y))), .int .i64 0]))
 else .returned (.tuple #[Am vZ, .int .i64 1])
structure T3 (w W : World) (x y : Val) : Prop where
 k : BlkV W w.heap.size x
 k2 : BlkV W (w.heap.size + 1) y
 kr : BlkV W (w.heap.size + 2) vZ
 l : w.heap.size + 2 < W.heap.size
 b : Below w.heap.size w W
theorem T3.new {w W1 W2 W3 : World} {x y : Val} (h : w.alloc (.cells (Af x) 24) = W1) (g : W1.alloc (.cells (Af y) 24) = W2) (f : W2.alloc (.cells (Af vZ) 24) = W3) : T3 w W3 x y := by
 have a := T2.new h g
 obtain ⟨_, _, c⟩ := H0 h
 obtain ⟨_, _, c2⟩ := H0 g
 obtain ⟨a3, b3, c3⟩ := H0 f
 rw [c2, c] at a3
 exact ⟨a.k.below b3 (by omega), a.k2.below b3 (by omega), a3, by omega, Aa a.b b3⟩
theorem T3.step {w W W' : World} {x y : Val} (h : T3 w W x y) (hb : Below W.heap.size W W') : T3 w W' x y :=
 ⟨h.k.below hb (by have := h.l; omega), h.k2.below hb (by have := h.l; omega), h.kr.below hb h.l, Nat.lt_of_lt_of_le h.l hb.size, Aa h.b hb⟩
theorem T3.drewN {w W : World} {x y : Val} (h : T3 w W x y) (n : Nat) : T3 w (W.drewN n) x y := ⟨h.k, h.k2, h.kr, h.l, Ad h.b n⟩
theorem T3.cs {w W : World} {x y : Val} (h : T3 w W x y) : W.cell? ⟨w.heap.size, 0, none⟩ = some (.int .i64 x.vk) ∧ W.cell? ⟨w.heap.size, 1, none⟩ = some (.bool x.vb) ∧ W.cell? ⟨w.heap.size, 2, none⟩ = some (.float .f64 x.vn) ∧ W.cell? ⟨w.heap.size, 3, none⟩ = some (.string x.vs) ∧ W.cell? ⟨w.heap.size, 4, none⟩ = some (.int .i64 x.vo) ∧
  W.cell? ⟨w.heap.size + 1, 0, none⟩ = some (.int .i64 y.vk) ∧ W.cell? ⟨w.heap.size + 1, 1, none⟩ = some (.bool y.vb) ∧ W.cell? ⟨w.heap.size + 1, 2, none⟩ = some (.float .f64 y.vn) ∧ W.cell? ⟨w.heap.size + 1, 3, none⟩ = some (.string y.vs) ∧ W.cell? ⟨w.heap.size + 1, 4, none⟩ = some (.int .i64 y.vo) :=
 ⟨h.k.cell rfl, h.k.cell rfl, h.k.cell rfl, h.k.cell rfl, h.k.cell rfl, h.k2.cell rfl, h.k2.cell rfl, h.k2.cell rfl, h.k2.cell rfl, h.k2.cell rfl⟩
theorem T3.row {w W : World} {x y : Val} (h : T3 w W x y) (c : Array Value) : (W.setRow (w.heap.size + 2) c).heap[w.heap.size + 2]? = some (.cells c 24 (0, 0)) ∧ Below w.heap.size w (W.setRow (w.heap.size + 2) c) :=
 ⟨setRow_heap _ _ _ _ _ _ h.kr, Qt h.b (by omega) _⟩
theorem Gn {x : Val} (h : Ba x = true) (hs : x.vs.size ≤ 140737488355328) : (El x).size ≤ 140737488355328 := by
 rcases Eq h with rfl | rfl | ⟨b, rfl⟩ | ⟨n, _, rfl⟩ | ⟨s, _, rfl⟩ | ⟨o, _, rfl⟩
 ·show wUnd.size ≤ _; decide
 ·show wNul.size ≤ _; decide
 ·cases b
  ·show wFal.size ≤ _; decide
  ·show wTru.size ≤ _; decide
 ·show (txt n).size ≤ _
  unfold txt
  have := (Classical.choose_spec (Nv n)).bd.2
  rw [Lib.size_eq]
  show (bL (Classical.choose (Nv n))).length ≤ _
  rw [Ie]
  omega
 ·exact hs
 ·show (⟨#[]⟩ : ByteArray).size ≤ _; decide
end
end Go.Proofs.YtmakhfekiieneaaGreatDoor
