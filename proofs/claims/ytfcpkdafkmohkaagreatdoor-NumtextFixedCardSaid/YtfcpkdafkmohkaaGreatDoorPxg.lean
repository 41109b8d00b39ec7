/-
  Merged texts (Ze, Yh, Yi, Zf, Zi, Zj, Zk).
-/
import Derived.Test.YtfcpkdafkmohkaaGreatDoorPxf
import Derived.Shelf.Strings.SlTrimAscii
import Derived.Shelf.Strings.Builder1
import Derived.Shelf.Strings.Builder2
import Derived.Shelf.Strings.OnBuilder
import Derived.Shelf.Strings.Trim
import Derived.Shelf.Small.Utf8
import Derived.Shelf.Small.Bits
import Derived.Shelf.Small.Strs
import Derived.Shelf.Small.Wraps
import Derived.Shelf.Strings.BuilderF
import Derived.Shelf.Strings.BuilderK
import Derived.Shelf.Strconv.Itoa0
import Derived.Shelf.Strconv.Itoa1
import Derived.Shelf.LaysM
import Derived.Shelf.Strconv.Itoa2
import Derived.Shelf.Strconv.Itoa3
import Derived.Shelf.Strings.Search1
import Derived.Shelf.Strings.Prefix
import Derived.Shelf.Unicode.Latin
import Derived.Shelf.Strings.Runes
import Derived.Shelf.Strings.AsciiSet
import Derived.Shelf.Bits.Mul64
import Derived.Shelf.Strings.Repeat
import Derived.Shelf.Unicode.DecodeSlow
import Derived.Shelf.Unicode.CaseLookup
import Derived.Shelf.Unicode.CaseConvert
import Derived.Shelf.Unicode.CaseTo
import Derived.Shelf.Unicode.CaseLaid
import Derived.Test.YtfcpkdafkmohkaaGreatDoorProg
import GoSem.Core.Utf8
import Derived.WalkKit
import Derived.WalkSpells
import Derived.WalkLawsBesides
import Derived.Deep.QuietTactic
import Derived.BigQuiet
import Derived.Lib.Hide
import Derived.Deep.OwnRows
import Derived.Laws.CopyOwn
import Derived.Deep.AppendLies
import Derived.Lib.BitFns
import Derived.Lib.Strings
import Derived.Laws.BitsAllLaws
import Derived.Lib.LaidTab
import Derived.ProofKit
import Derived.OpenShut
import Derived.SizedLaws
import Derived.Laws.BytesString
import Derived.Laws.Cells
import Derived.Deep.RegionWith
import Derived.BigRegion
import Derived.Test.YtfcpkdafkmohkaaGreatDoorRows
import Derived.Lib.ItoaNum
import Derived.Deep.DeepCutAuto
import Ieee.Arith
import GoSem.Core.Float
import Derived.Laws.FloatArith
import Derived.Laws.Externs
import Derived.Deep.RegionHeld3
import Derived.Laws.Closers25b
import Derived.Lib.SlTrimSet
import Derived.Lib.Case
import Derived.Deep.WholeRow
import Derived.Laws.Tables
import Derived.Laws.EntriesVeiled
import Derived.Lib.AppendIntMem
namespace Go.Proofs.YtfcpkdafkmohkaaGreatDoor
open Go.RowKit
set_option maxRecDepth 100000 in
set_option maxHeartbeats 1000000 in
theorem yrounded_low {x N D : Nat} {p o : Int} {S : ByteArray} {w : World} (ho : o < 0)
  (CS : Hid (∀ W, Cp 48 #[.float .f64 x, .int .i64 p] W fun e w' => ∃ A a c C b d, e = .returned (.tuple #[.slice A a c, .slice C b d]) ∧ NV w' A a c N ∧ NV w' C b d D ∧ Below W.heap.size W w'))
  (CH : Hid (∀ W A a c C b d, NV W A a c N → NV W C b d D → Cp 49 #[.slice A a c, .slice C b d] W (HRet N D W)))
  (CU : Hid (∀ W A a c, NV W A a c (N % D) → Cp 102 #[.slice A a c, .int .i64 1] W (NRet (N % D * 2 ^ 1) W)))
  (CC : Hid (∀ W A a c C b d, NV W A a c (N % D * 2 ^ 1) → NV W C b d D → Cq 101 #[.slice A a c, .slice C b d] (.int .i64 o) W))
  (CN : Hid (∀ W A a c, NV W A a c (N / D) → Ct 105 #[.slice A a c] (.string S) W)) :
  Ct 57 #[.float .f64 x, .int .i64 p] (.string S) w := by
 obtain ⟨q, hq⟩ : ∃ q, N / D = q := ⟨_, rfl⟩
 obtain ⟨r, hr⟩ : ∃ r, N % D = r := ⟨_, rfl⟩
 unfold HRet at CH
 rw [hq] at CH CN
 rw [hr] at CH CU CC
 clear hq hr
 go_enter Tryz.func57, Tryz.ntmps57
 go_wp2_with fail
 refine (CS.out _).mono ?_
 rintro e w2 ⟨A2, n2, c2, A3, n3, c3, rfl, g2, g3, b2'⟩
 have GN := Lib.hid g2
 have GD := Lib.hid g3
 have B2 := Lib.hid b2'
 clear g2 g3 b2'
 go_wp2_with fail
 refine (CH.out _ _ _ _ _ _ _ GN.out GD.out).mono ?_
 rintro e w3 ⟨A4, n4, c4, A5, n5, c5, rfl, g4, g5, b3'⟩
 have GQ := Lib.hid g4
 have GR := Lib.hid g5
 have GD := Lib.hid (GD.out.step b3')
 have B3 := Lib.hid (below_le B2.out b3')
 clear g4 g5 b3'
 go_wp2_with fail
 refine (CU.out _ _ _ _ GR.out).mono ?_
 rintro e w4 ⟨A6, n6, c6, rfl, g6, b4'⟩
 have GU := Lib.hid g6
 have GQ := Lib.hid (GQ.out.step b4')
 have GD := Lib.hid (GD.out.step b4')
 have B4 := Lib.hid (below_le B3.out b4')
 clear g6 b4'
 go_wp2_with fail
 refine (CC.out _ _ _ _ _ _ _ GU.out GD.out).mono ?_
 rintro e w' ⟨rfl, rfl⟩
 go_wp2_with fail
 refine (CN.out _ _ _ _ GQ.out).mono ?_
 rintro e w7 ⟨rfl, b7'⟩
 have B7 := Lib.hid (below_le B4.out b7')
 clear b7'
 go_wp2
 go_ret
 exact ⟨rfl, B7.out⟩
set_option maxRecDepth 100000 in
set_option maxHeartbeats 1000000 in
theorem yrounded_high {x N D : Nat} {p o : Int} {S : ByteArray} {w : World} (ho : 0 ≤ o)
  (CS : Hid (∀ W, Cp 48 #[.float .f64 x, .int .i64 p] W fun e w' => ∃ A a c C b d, e = .returned (.tuple #[.slice A a c, .slice C b d]) ∧ NV w' A a c N ∧ NV w' C b d D ∧ Below W.heap.size W w'))
  (CH : Hid (∀ W A a c C b d, NV W A a c N → NV W C b d D → Cp 49 #[.slice A a c, .slice C b d] W (HRet N D W)))
  (CU : Hid (∀ W A a c, NV W A a c (N % D) → Cp 102 #[.slice A a c, .int .i64 1] W (NRet (N % D * 2 ^ 1) W)))
  (CC : Hid (∀ W A a c C b d, NV W A a c (N % D * 2 ^ 1) → NV W C b d D → Cq 101 #[.slice A a c, .slice C b d] (.int .i64 o) W))
  (CP : Hid (∀ W A a c C b d, NV W A a c (N / D) → NV W C b d 1 → Cp 103 #[.slice A a c, .slice C b d] W (NRet (N / D + 1) W)))
  (CN : Hid (∀ W A a c, NV W A a c (N / D + 1) → Ct 105 #[.slice A a c] (.string S) W)) :
  Ct 57 #[.float .f64 x, .int .i64 p] (.string S) w := by
 obtain ⟨q, hq⟩ : ∃ q, N / D = q := ⟨_, rfl⟩
 obtain ⟨r, hr⟩ : ∃ r, N % D = r := ⟨_, rfl⟩
 unfold HRet at CH
 rw [hq] at CH CP CN
 rw [hr] at CH CU CC
 clear hq hr
 have ho' : ¬ o < 0 := by omega
 go_enter Tryz.func57, Tryz.ntmps57
 go_wp2_with fail
 refine (CS.out _).mono ?_
 rintro e w2 ⟨A2, n2, c2, A3, n3, c3, rfl, g2, g3, b2'⟩
 have GN := Lib.hid g2
 have GD := Lib.hid g3
 have B2 := Lib.hid b2'
 clear g2 g3 b2'
 go_wp2_with fail
 refine (CH.out _ _ _ _ _ _ _ GN.out GD.out).mono ?_
 rintro e w3 ⟨A4, n4, c4, A5, n5, c5, rfl, g4, g5, b3'⟩
 have GQ := Lib.hid g4
 have GR := Lib.hid g5
 have GD := Lib.hid (GD.out.step b3')
 have B3 := Lib.hid (below_le B2.out b3')
 clear g4 g5 b3'
 go_wp2_with fail
 refine (CU.out _ _ _ _ GR.out).mono ?_
 rintro e w4 ⟨A6, n6, c6, rfl, g6, b4'⟩
 have GU := Lib.hid g6
 have GQ := Lib.hid (GQ.out.step b4')
 have GD := Lib.hid (GD.out.step b4')
 have B4 := Lib.hid (below_le B3.out b4')
 clear g6 b4'
 go_wp2_with fail
 refine (CC.out _ _ _ _ _ _ _ GU.out GD.out).mono ?_
 rintro e w' ⟨rfl, rfl⟩
 have G1 := Lib.hid (NV.lit w4 1 (by omega) (by omega))
 have GQ := Lib.hid (GQ.out.step (below_al w4 (.cells #[.int .u32 1] 42)))
 have B4 := Lib.hid (alloc_below (.cells #[.int .u32 1] 42) B4.out)
 go_wp2_with fail
 generalize w4.alloc (.cells #[.int .u32 1] 42) = w5 at *
 refine (CP.out _ _ _ _ _ _ _ GQ.out G1.out).mono ?_
 rintro e w6 ⟨A7, n7, c7, rfl, g7, b6'⟩
 have GS := Lib.hid g7
 have B6 := Lib.hid (below_le B4.out b6')
 clear g7 b6'
 go_wp2_with fail
 refine (CN.out _ _ _ _ GS.out).mono ?_
 rintro e w7 ⟨rfl, b7'⟩
 have B7 := Lib.hid (below_le B6.out b7')
 clear b7'
 go_wp2
 go_ret
 exact ⟨rfl, B7.out⟩
theorem yrounded_of {x x' m : Nat} {two p : Int} {w : World} (hG : PartG x' m two) (hC : ∀ W, Cp 48 #[.float .f64 x, .int .i64 p] W (ScQ m two p W)) (h1 : -700 ≤ p) (h2 : p ≤ 700) :
  Ct 57 #[.float .f64 x, .int .i64 p] (.string (strOf (dL (rhN x' p)))) w := by
 obtain ⟨gb1, gb2, gb3⟩ := hG.bd
 unfold ScQ at hC
 have hr : rhu (scN m two p) (scD two p) = rhN x' p := rhu_cross (scD_pos _ _) (vV_pos _) (sc_facts hG p)
 have bN := scN_bln hG (p := p) (by omega)
 have bD := scD_bln (two := two) (p := p) gb2 (by omega)
 have hD := scD_pos two p
 obtain ⟨N, hN⟩ : ∃ N, scN m two p = N := ⟨_, rfl⟩
 obtain ⟨D, hD'⟩ : ∃ D, scD two p = D := ⟨_, rfl⟩
 rw [hN, hD'] at hr
 rw [hN] at bN
 rw [hD'] at bD hD
 rw [hN, hD'] at hC
 have bR : bln (N % D) ≤ 5000 := Nat.le_trans (bln_mono (Nat.mod_le _ _)) bN
 have bQ : bln (N / D) ≤ 5000 := Nat.le_trans (bln_mono (Nat.div_le_self _ _)) bN
 have bS := bln_succ (N / D)
 have bm := bln_mul (N % D) (2 ^ 1)
 have b2 := bln_pow2 1
 rw [← hr]
 unfold rhu
 by_cases hc : D ≤ 2 * (N % D)
 ·rw [if_pos hc]
  refine yrounded_high (o := cmpN (N % D * 2 ^ 1) D) ?_ (Lib.hid hC) (Lib.hid fun W A a c C b d h g => rnhalved h g (by omega) (by omega) hD) (Lib.hid fun W A a c h => rnup h 1 (by omega) (by omega))
   (Lib.hid fun W A a c C b d h g => rncmp h g (by omega) (by omega)) (Lib.hid fun W A a c C b d h g => rnplus h g (by omega) (by decide)) (Lib.hid fun W A a c h => ynumber_any h (by omega))
  unfold cmpN
  rw [if_neg (by omega)]
  split <;> omega
 ·rw [if_neg hc, Nat.add_zero]
  refine yrounded_low (o := cmpN (N % D * 2 ^ 1) D) (cmpN_lt.2 (by omega)) (Lib.hid hC) (Lib.hid fun W A a c C b d h g => rnhalved h g (by omega) (by omega) hD) (Lib.hid fun W A a c h => rnup h 1 (by omega) (by omega))
   (Lib.hid fun W A a c C b d h g => rncmp h g (by omega) (by omega)) (Lib.hid fun W A a c h => ynumber_any h (by omega))
theorem yrounded_any {x : Nat} {p : Int} {w : World} (hx : x < 9218868437227405312) (h1 : -700 ≤ p) (h2 : p ≤ 700) :
  Ct 57 #[.float .f64 x, .int .i64 p] (.string (strOf (dL (rhN x p)))) w := by
 obtain ⟨m, two, hG, hC⟩ := yscaled_fix x hx
 exact yrounded_of hG (fun W => hC p W h1 h2) h1 h2
def AmtOf (x y : Nat) : Prop := y = rung x ∨ (rung x = 0 ∧ y = x)
theorem yrounded_amt {x y : Nat} {p : Int} {w : World} (hx : x < 18446744073709551616) (hf : rung x < 9218868437227405312) (hy : AmtOf x y) (h1 : -700 ≤ p) (h2 : p ≤ 700) :
  Ct 57 #[.float .f64 y, .int .i64 p] (.string (strOf (dL (rhN (rung x) p)))) w := by
 rcases hy with rfl | ⟨h0, rfl⟩
 ·exact yrounded_any hf h1 h2
 ·rw [h0]
  exact yrounded_of (.inl ⟨rfl, rfl, rfl⟩) (fun W => yscaled_nought y hx h0 p W h1 h2) h1 h2
end Go.Proofs.YtfcpkdafkmohkaaGreatDoor
namespace Go.Proofs.YtfcpkdafkmohkaaGreatDoor
open Go.RowKit
theorem ytext_nan (x : Nat) (w : World)
  (CN : Hid (∀ W, Cq 34 #[.float .f64 x] (.bool true) W)) :
  Cq 45 #[.float .f64 x] (.string ⟨#[78, 97, 78]⟩) w := by
 go_enter Tryz.func45, Tryz.ntmps45
 go_wp2_with fail
 refine (CN.out _).mono ?_
 rintro e w' ⟨rfl, rfl⟩
 go_wp2
 go_ret
 exact ⟨rfl, rfl⟩
theorem ytext_zero (x : Nat) (w : World) (t0 : (FloatKind.f64.format.order x 0 == some .eq) = true)
  (CN : Hid (∀ W, Cq 34 #[.float .f64 x] (.bool false) W)) :
  Cq 45 #[.float .f64 x] (.string ⟨#[48]⟩) w := by
 go_enter Tryz.func45, Tryz.ntmps45
 go_wp2_with fail
 refine (CN.out _).mono ?_
 rintro e w' ⟨rfl, rfl⟩
 go_wp2
 go_ret
 exact ⟨rfl, rfl⟩
theorem ytext_inf (x : Nat) (w : World) (t0 : (FloatKind.f64.format.order x 0 == some .eq) = false) (t1 : (FloatKind.f64.format.order x 0 == some .lt) = false)
  (CN : Hid (∀ W, Cq 34 #[.float .f64 x] (.bool false) W))
  (CI : Hid (∀ W, Cq 36 #[.float .f64 x, .int .i64 1] (.bool true) W)) :
  Cq 45 #[.float .f64 x] (.string ⟨#[73, 110, 102, 105, 110, 105, 116, 121]⟩) w := by
 go_enter Tryz.func45, Tryz.ntmps45
 go_wp2_with fail
 refine (CN.out _).mono ?_
 rintro e w' ⟨rfl, rfl⟩
 go_wp2_with fail
 refine (CI.out _).mono ?_
 rintro e w' ⟨rfl, rfl⟩
 go_wp2
 go_ret
 exact ⟨rfl, rfl⟩
theorem ytext_neg (x y : Nat) (S F : ByteArray) (w : World) (t0 : (FloatKind.f64.format.order x 0 == some .eq) = false) (t1 : (FloatKind.f64.format.order x 0 == some .lt) = true)
  (r3 : ∀ W, (Op.unary UnOp.neg (.float .f64 x)).run Tryz.prog W = .ok (.float .f64 y) W)
  (CN : Hid (∀ W, Cq 34 #[.float .f64 x] (.bool false) W))
  (CT : Hid (∀ W, Ct 45 #[.float .f64 y] (.string S) W)) (hS : Hid (S.size ≤ 1000000)) (hF : ⟨#[45]⟩ ++ S = F) :
  Ct 45 #[.float .f64 x] (.string F) w := by
 have g1 : ¬ 9223372036854775807 < 1 + S.size := by have := hS.out; omega
 go_enter Tryz.func45, Tryz.ntmps45
 go_wp2_with fail
 refine (CN.out _).mono ?_
 rintro e w' ⟨rfl, rfl⟩
 go_wp2_with fail
 refine (CT.out _).mono ?_
 rintro e w2 ⟨rfl, b2⟩
 have B2 := Lib.hid b2
 clear b2
 go_wp2
 go_ret
 exact ⟨rfl, B2.out⟩
set_option maxRecDepth 100000 in
set_option maxHeartbeats 1000000 in
theorem ytext_whole (x : Nat) (N : Int) (n z : Nat) (Z : ByteArray) (S F : ByteArray) (w : World) (t0 : (FloatKind.f64.format.order x 0 == some .eq) = false) (t1 : (FloatKind.f64.format.order x 0 == some .lt) = false) (hn : S.size = n) (h1 : (n : Int) ≤ N) (h2 : N ≤ 21) (hz : N - (n : Int) = (z : Int)) (hZ : Hid (Z.size ≤ 1000)) (hF : S ++ Z = F)
  (CR : Hid (∀ W, Cq 65 #[.int .i64 z] (.string Z) W))
  (CN : Hid (∀ W, Cq 34 #[.float .f64 x] (.bool false) W))
  (CI : Hid (∀ W, Cq 36 #[.float .f64 x, .int .i64 1] (.bool false) W))
  (C : Hid (∀ W, Ct 42 #[.float .f64 x] (.tuple #[.string S, .int .i64 N]) W)) :
  Ct 45 #[.float .f64 x] (.string F) w := by
 have g1 : ¬ 9223372036854775807 < n + Z.size := by have := hZ.out; omega
 have hzz := Lib.hid hz
 have h6 : 0 ≤ (n : Int) := by omega
 go_enter Tryz.func45, Tryz.ntmps45
 go_wp2_with fail
 refine (CN.out _).mono ?_
 rintro e w' ⟨rfl, rfl⟩
 go_wp2_with fail
 refine (CI.out _).mono ?_
 rintro e w' ⟨rfl, rfl⟩
 go_wp2_with fail
 refine (C.out _).mono ?_
 rintro e w1 ⟨rfl, b1'⟩
 have B1 := Lib.hid b1'
 clear b1'
 go_wp2_with fail
 refine (CR.out _).mono ?_
 rintro e w' ⟨rfl, rfl⟩
 go_wp2
 go_ret
 exact ⟨rfl, B1.out⟩
set_option maxRecDepth 100000 in
set_option maxHeartbeats 1000000 in
theorem ytext_point (x : Nat) (N : Int) (n j : Nat) (H D T : ByteArray) (S F : ByteArray) (w : World) (t0 : (FloatKind.f64.format.order x 0 == some .eq) = false) (t1 : (FloatKind.f64.format.order x 0 == some .lt) = false) (hn : S.size = n) (hj : N = (j : Int)) (h0 : 0 < j) (h1 : j < n) (h2 : j ≤ 21) (hH : S.extract 0 j = H) (hHs : Hid (H.size ≤ 1000)) (hD : H ++ ⟨#[46]⟩ = D) (hDs : Hid (D.size ≤ 1001)) (hT : S.extract j n = T) (hTs : Hid (T.size ≤ 1000)) (hF : D ++ T = F)
  (CN : Hid (∀ W, Cq 34 #[.float .f64 x] (.bool false) W))
  (CI : Hid (∀ W, Cq 36 #[.float .f64 x, .int .i64 1] (.bool false) W))
  (C : Hid (∀ W, Ct 42 #[.float .f64 x] (.tuple #[.string S, .int .i64 N]) W)) :
  Ct 45 #[.float .f64 x] (.string F) w := by
 subst hj
 have t2 : ¬ (n : Int) ≤ (j : Int) := by omega
 have t2' : decide (n ≤ j) = false := decide_eq_false (by omega)
 have t3 : 0 < (j : Int) := by omega
 have t4 : (j : Int) ≤ 21 := by omega
 have t5 : (j : Int) ≤ (n : Int) := by omega
 have t6 : 0 ≤ (j : Int) := by omega
 have g1 : ¬ 9223372036854775807 < H.size + 1 := by have := hHs.out; omega
 have g2 : ¬ 9223372036854775807 < D.size + T.size := by have := hDs.out; have := hTs.out; omega
 go_enter Tryz.func45, Tryz.ntmps45
 go_wp2_with fail
 refine (CN.out _).mono ?_
 rintro e w' ⟨rfl, rfl⟩
 go_wp2_with fail
 refine (CI.out _).mono ?_
 rintro e w' ⟨rfl, rfl⟩
 go_wp2_with fail
 refine (C.out _).mono ?_
 rintro e w1 ⟨rfl, b1'⟩
 have B1 := Lib.hid b1'
 clear b1'
 go_wp2_with fail
 clear hHs hDs hTs h0 h1 h2
 go_quiet (fail)
 go_wp2
 go_ret
 exact ⟨rfl, below_drewN' B1.out _⟩
set_option maxRecDepth 100000 in
set_option maxHeartbeats 1000000 in
theorem ytext_low (x : Nat) (N : Int) (n z : Nat) (Z D : ByteArray) (S F : ByteArray) (w : World) (t0 : (FloatKind.f64.format.order x 0 == some .eq) = false) (t1 : (FloatKind.f64.format.order x 0 == some .lt) = false) (hn : S.size = n) (hn1 : 1 ≤ n) (hn2 : n ≤ 1000) (h1 : -6 < N) (h2 : N ≤ 0) (hz : -N = (z : Int)) (hZ : Hid (Z.size ≤ 1000)) (hD : ⟨#[48, 46]⟩ ++ Z = D) (hDs : Hid (D.size ≤ 1002)) (hF : D ++ S = F)
  (CR : Hid (∀ W, Cq 65 #[.int .i64 z] (.string Z) W))
  (CN : Hid (∀ W, Cq 34 #[.float .f64 x] (.bool false) W))
  (CI : Hid (∀ W, Cq 36 #[.float .f64 x, .int .i64 1] (.bool false) W))
  (C : Hid (∀ W, Ct 42 #[.float .f64 x] (.tuple #[.string S, .int .i64 N]) W)) :
  Ct 45 #[.float .f64 x] (.string F) w := by
 have g1 : ¬ 9223372036854775807 < 2 + Z.size := by have := hZ.out; omega
 have g2 : ¬ 9223372036854775807 < D.size + n := by have := hDs.out; omega
 have hzz := Lib.hid hz
 have t2 : ¬ (n : Int) ≤ N := by omega
 have t3 : ¬ 0 < N := by omega
 have h6 : 0 ≤ (n : Int) := by omega
 go_enter Tryz.func45, Tryz.ntmps45
 go_wp2_with fail
 refine (CN.out _).mono ?_
 rintro e w' ⟨rfl, rfl⟩
 go_wp2_with fail
 refine (CI.out _).mono ?_
 rintro e w' ⟨rfl, rfl⟩
 go_wp2_with fail
 refine (C.out _).mono ?_
 rintro e w1 ⟨rfl, b1'⟩
 have B1 := Lib.hid b1'
 clear b1'
 go_wp2_with fail
 refine (CR.out _).mono ?_
 rintro e w' ⟨rfl, rfl⟩
 go_wp2
 go_ret
 exact ⟨rfl, B1.out⟩
set_option maxRecDepth 100000 in
set_option maxHeartbeats 1000000 in
theorem ytext_high (x : Nat) (N : Int) (n : Nat) (S F : ByteArray) (w : World) (t0 : (FloatKind.f64.format.order x 0 == some .eq) = false) (t1 : (FloatKind.f64.format.order x 0 == some .lt) = false) (hn : S.size = n) (b1 : N ≤ 1000) (h1 : 21 < N)
  (CE : Hid (∀ W, Ct 63 #[.string S, .int .i64 (N - 1)] (.string F) W))
  (CN : Hid (∀ W, Cq 34 #[.float .f64 x] (.bool false) W))
  (CI : Hid (∀ W, Cq 36 #[.float .f64 x, .int .i64 1] (.bool false) W))
  (C : Hid (∀ W, Ct 42 #[.float .f64 x] (.tuple #[.string S, .int .i64 N]) W)) :
  Ct 45 #[.float .f64 x] (.string F) w := by
 have t4 : ¬ N ≤ 21 := by omega
 have t3 : 0 < N := by omega
 have t5 : ¬ N ≤ 0 := by omega
 have t6 : -6 < N := by omega
 by_cases hw : (n : Int) ≤ N
 ·skip
  go_enter Tryz.func45, Tryz.ntmps45
  go_wp2_with fail
  refine (CN.out _).mono ?_
  rintro e w' ⟨rfl, rfl⟩
  go_wp2_with fail
  refine (CI.out _).mono ?_
  rintro e w' ⟨rfl, rfl⟩
  go_wp2_with fail
  refine (C.out _).mono ?_
  rintro e w1 ⟨rfl, b1'⟩
  have B1 := Lib.hid b1'
  clear b1'
  go_wp2_with fail
  refine (CE.out _).mono ?_
  rintro e w2 ⟨rfl, b2'⟩
  have B2 := Lib.hid (below_le B1.out b2')
  clear b2'
  go_wp2
  go_ret
  exact ⟨rfl, B2.out⟩
 ·skip
  go_enter Tryz.func45, Tryz.ntmps45
  go_wp2_with fail
  refine (CN.out _).mono ?_
  rintro e w' ⟨rfl, rfl⟩
  go_wp2_with fail
  refine (CI.out _).mono ?_
  rintro e w' ⟨rfl, rfl⟩
  go_wp2_with fail
  refine (C.out _).mono ?_
  rintro e w1 ⟨rfl, b1'⟩
  have B1 := Lib.hid b1'
  clear b1'
  go_wp2_with fail
  refine (CE.out _).mono ?_
  rintro e w2 ⟨rfl, b2'⟩
  have B2 := Lib.hid (below_le B1.out b2')
  clear b2'
  go_wp2
  go_ret
  exact ⟨rfl, B2.out⟩
set_option maxRecDepth 100000 in
set_option maxHeartbeats 1000000 in
theorem ytext_tiny (x : Nat) (N : Int) (n : Nat) (S F : ByteArray) (w : World) (t0 : (FloatKind.f64.format.order x 0 == some .eq) = false) (t1 : (FloatKind.f64.format.order x 0 == some .lt) = false) (hn : S.size = n) (hn1 : 1 ≤ n) (hn2 : n ≤ 1000) (b1 : -1000 ≤ N) (h1 : N ≤ -6)
  (CE : Hid (∀ W, Ct 63 #[.string S, .int .i64 (N - 1)] (.string F) W))
  (CN : Hid (∀ W, Cq 34 #[.float .f64 x] (.bool false) W))
  (CI : Hid (∀ W, Cq 36 #[.float .f64 x, .int .i64 1] (.bool false) W))
  (C : Hid (∀ W, Ct 42 #[.float .f64 x] (.tuple #[.string S, .int .i64 N]) W)) :
  Ct 45 #[.float .f64 x] (.string F) w := by
 have t2 : ¬ (n : Int) ≤ N := by omega
 have t3 : ¬ 0 < N := by omega
 have t6 : ¬ -6 < N := by omega
 go_enter Tryz.func45, Tryz.ntmps45
 go_wp2_with fail
 refine (CN.out _).mono ?_
 rintro e w' ⟨rfl, rfl⟩
 go_wp2_with fail
 refine (CI.out _).mono ?_
 rintro e w' ⟨rfl, rfl⟩
 go_wp2_with fail
 refine (C.out _).mono ?_
 rintro e w1 ⟨rfl, b1'⟩
 have B1 := Lib.hid b1'
 clear b1'
 go_wp2_with fail
 refine (CE.out _).mono ?_
 rintro e w2 ⟨rfl, b2'⟩
 have B2 := Lib.hid (below_le B1.out b2')
 clear b2'
 go_wp2
 go_ret
 exact ⟨rfl, B2.out⟩

end Go.Proofs.YtfcpkdafkmohkaaGreatDoor
namespace Go.Proofs.YtfcpkdafkmohkaaGreatDoor
open Go.RowKit
theorem wd_hi {x : Nat} (hx : x < 18446744073709551616) (h : fneg x = true) : x = 9223372036854775808 + rung x := by
 unfold fneg at h
 have h1 := of_decide_eq_true (by simpa using h : decide (x / 9223372036854775808 % 2 = 1) = true)
 unfold rung
 omega
theorem negW_hi {r : Nat} (h : r < 9223372036854775808) : negW (9223372036854775808 + r) = r := by
 have h1 := negW_eq h
 have h2 : (9223372036854775808 + r) ^^^ 9223372036854775808 = r := by
  have h3 : r ^^^ 9223372036854775808 = 9223372036854775808 + r := h1
  rw [← h3, Nat.xor_assoc, Nat.xor_self, Nat.xor_zero]
 exact h2
theorem pt_in {l : List Nat} {j : Nat} (h0 : 0 < j) (h : j < l.length) : ptL l (l.length - j) = l.take j ++ 46 :: l.drop j := by
 unfold ptL
 rw [if_neg (by omega), show l.length - j + 1 - l.length = 0 by omega, List.replicate_zero, List.nil_append, show 0 + l.length - (l.length - j) = j by omega]
theorem pt_out (l : List Nat) (z : Nat) (h : 0 < l.length) : ptL l (l.length + z) = 48 :: 46 :: (List.replicate z 48 ++ l) := by
 unfold ptL
 rw [if_neg (by omega), show l.length + z + 1 - l.length = z + 1 by omega, show z + 1 + l.length - (l.length + z) = 1 by omega, List.replicate_succ, List.cons_append, List.take_succ_cons, List.take_zero, List.drop_succ_cons, List.drop_zero]
 rfl
theorem ytext_pos {r : Nat} {L : List Nat} {w : World} (hr : r < 9218868437227405312) (h : PlQ r L) :
  Ct 45 #[.float .f64 r] (.string (strOf L)) w := by
 have CN := Lib.hid (fun W => isNaN_any r W)
 have CI := Lib.hid (fun W => isInf1_any r W)
 have e1 : rung r = r := (frank_pos (x := r) (by omega)).2
 rw [show fnan r = false from decide_eq_false (by rw [e1]; omega)] at CN
 rw [show finf r = false from decide_eq_false (by rw [e1]; omega), Bool.false_and] at CI
 rcases h with ⟨rfl, rfl⟩ | ⟨h0, D, N, hq, rfl⟩
 ·refine (ytext_zero 0 w (by rw [ord_eq_pos (by omega) (by omega)]; rfl) CN).mono ?_
  rintro e w' ⟨rfl, rfl⟩
  exact ⟨rfl, Below.refl _ _⟩
 ·obtain ⟨b1, b2, b3, b4, b5⟩ := hq.bd h0 hr
  have t0 : (FloatKind.f64.format.order r 0 == some .eq) = false := by rw [ord_eq_pos (by omega) (by omega)]; exact decide_eq_false (by omega)
  have t1 : (FloatKind.f64.format.order r 0 == some .lt) = false := by rw [ord_lt_pos (by omega) (by omega)]; exact decide_eq_false (by omega)
  have C := Lib.hid (fun W => yDigits_is (w := W) h0 hr hq)
  have CE := Lib.hid (fun W => yexponent_any D (N - 1) W b5 b3 (by omega) (by omega) (by omega))
  have hb := bl_strOf b5
  have hsz := strOf_size D
  unfold plL
  by_cases h1 : N ≤ -6
  ·rw [if_pos (.inl h1)]
   exact ytext_tiny r N D.length _ _ w t0 t1 hsz b3 (by omega) (by omega) h1 CE CN CI C
  ·by_cases h2 : 21 < N
   ·rw [if_pos (.inr h2)]
    exact ytext_high r N D.length _ _ w t0 t1 hsz (by omega) h2 CE CN CI C
   ·rw [if_neg (by omega)]
    by_cases h3 : (D.length : Int) ≤ N
    ·rw [if_pos h3]
     exact ytext_whole r N D.length (N - D.length).toNat (strOf (List.replicate (N - D.length).toNat 48)) _ _ w t0 t1 hsz h3 (by omega) (by omega) (Lib.hid (by rw [strOf_size, List.length_replicate]; omega)) (strOf_append _ _) (Lib.hid fun W => (ynoughts_any _ W (by omega)).mono fun e w' h => ⟨h.1, h.2⟩) CN CI C
    ·rw [if_neg h3]
     by_cases h4 : N ≤ 0
     ·obtain ⟨z, hz⟩ : ∃ z : Nat, -N = (z : Int) := ⟨(-N).toNat, by omega⟩
      rw [show ((D.length : Int) - N).toNat = D.length + z by omega, pt_out D z b3]
      refine ytext_low r N D.length z (strOf (List.replicate z 48)) (strOf (48 :: 46 :: List.replicate z 48)) _ _ w t0 t1 hsz b3 (by omega) (by omega) h4 hz (Lib.hid (by rw [strOf_size, List.length_replicate]; omega)) ?_ (Lib.hid (by rw [strOf_size, List.length_cons, List.length_cons, List.length_replicate]; omega)) ?_ (Lib.hid fun W => (ynoughts_any _ W (by omega)).mono fun e w' h => ⟨h.1, h.2⟩) CN CI C
      ·rw [show (⟨#[48, 46]⟩ : ByteArray) = strOf [48, 46] from rfl, strOf_append]; rfl
      ·rw [strOf_append]; rfl
     ·obtain ⟨j, hj⟩ : ∃ j : Nat, N = (j : Int) := ⟨N.toNat, by omega⟩
      rw [show ((D.length : Int) - N).toNat = D.length - j by omega, pt_in (by omega) (by omega)]
      refine ytext_point r N D.length j (strOf (D.take j)) (strOf (D.take j ++ [46])) (strOf (D.drop j)) _ _ w t0 t1 hsz hj (by omega) (by omega) (by omega) (by rw [ext_take, hb]) (Lib.hid (by rw [strOf_size, List.length_take]; omega)) (by rw [dot_str, strOf_append]) (Lib.hid (by rw [strOf_size, List.length_append, List.length_take, List.length_singleton]; omega)) (by rw [← hsz, ext_drop, hb]) (Lib.hid (by rw [strOf_size, List.length_drop]; omega)) ?_ CN CI C
      rw [strOf_append, List.append_assoc, List.singleton_append]
theorem ytext_any {x : Nat} {L : List Nat} {w : World} (hx : x < 18446744073709551616) (h : TxQ x L) :
  Ct 45 #[.float .f64 x] (.string (strOf L)) w := by
 have CN := Lib.hid (fun W => isNaN_any x W)
 rcases h with ⟨h1, rfl⟩ | ⟨h1, h2, rfl⟩ | ⟨h1, h2, l, h3, rfl⟩
 ·rw [h1] at CN
  refine (ytext_nan x w CN).mono ?_
  rintro e w' ⟨rfl, rfl⟩
  exact ⟨rfl, Below.refl _ _⟩
 ·rw [h1] at CN
  have hr : rung x = 9218868437227405312 := of_decide_eq_true h2
  have pos : ∀ W, Cq 45 #[.float .f64 9218868437227405312] (.string (strOf infL)) W := fun W =>
   ytext_inf 9218868437227405312 W (by rw [ord_eq_pos (by omega) (by omega)]; rfl) (by rw [ord_lt_pos (by omega) (by omega)]; rfl) (Lib.hid fun W => isNaN_any _ W) (Lib.hid fun W => isInf1_any _ W)
  unfold sgx ngB
  cases hn : fneg x
  ·have : x = 9218868437227405312 := by
    rw [← hr]
    unfold fneg at hn
    unfold rung
    simp at hn
    omega
   subst this
   refine (pos w).mono ?_
   rintro e w' ⟨rfl, rfl⟩
   exact ⟨rfl, Below.refl _ _⟩
  ·have hw := wd_hi hx hn
   rw [hr] at hw
   subst hw
   rw [Bool.true_and, if_pos (decide_eq_true (by omega))]
   refine ytext_neg _ 9218868437227405312 (strOf infL) _ w (by decide) (by decide) (fun W => by
    have h3 : (Op.unary UnOp.neg (.float .f64 (9223372036854775808 + 9218868437227405312))).run Tryz.prog W = .ok (.float .f64 (negW (9223372036854775808 + 9218868437227405312))) W := rfl
    rw [negW_hi (by omega)] at h3
    exact h3) CN (Lib.hid fun W => (pos W).mono fun e w' h => ⟨h.1, h.2 ▸ Below.refl _ _⟩) (Lib.hid (by decide)) ?_
   rw [show (⟨#[45]⟩ : ByteArray) = strOf [45] from rfl, strOf_append]
 ·rw [h1] at CN
  have hr := fin_rung h1 h2
  have hp := fun W => ytext_pos (w := W) hr h3
  obtain ⟨l1, l2⟩ := PlQ.bd hr h3
  unfold sgx ngB
  cases hn : fneg x
  ·have : rung x = x := by
    unfold fneg at hn
    unfold rung
    simp at hn
    omega
   rw [this] at hp
   exact hp w
  ·have hw := wd_hi hx hn
   rcases Nat.eq_zero_or_pos (rung x) with h0 | h0
   ·rw [Bool.true_and, if_neg (by rw [h0]; decide)]
    rw [h0] at h3 hw
    rcases h3 with ⟨_, rfl⟩ | ⟨h4, _⟩
    ·subst hw
     refine (ytext_zero _ w (by decide) CN).mono ?_
     rintro e w' ⟨rfl, rfl⟩
     exact ⟨rfl, Below.refl _ _⟩
    ·omega
   ·rw [Bool.true_and, if_pos (decide_eq_true h0)]
    have hlt := ord_neg x
    rw [h1] at hlt
    have hg : ngB x = true := by unfold ngB; rw [hn, decide_eq_true h0]; rfl
    rw [hg] at hlt
    refine ytext_neg x (rung x) (strOf l) _ w ?_ hlt (fun W => by
     have h4 : (Op.unary UnOp.neg (.float .f64 x)).run Tryz.prog W = .ok (.float .f64 (negW x)) W := rfl
     rw [h4]
     conv => lhs; rw [hw]
     rw [negW_hi (by omega)]) CN (Lib.hid hp) (Lib.hid (by rw [strOf_size]; omega)) ?_
    ·have h5 := eq_of_beq hlt
     rw [h5]
     rfl
    ·rw [show (⟨#[45]⟩ : ByteArray) = strOf [45] from rfl, strOf_append]
theorem TxQ.bd {x : Nat} {L : List Nat} (h : TxQ x L) : (∀ c ∈ L, c < 256) ∧ L.length ≤ 2000 := by
 have hs : (∀ c ∈ sgx x, c < 256) ∧ (sgx x).length ≤ 1 := by
  unfold sgx
  split <;> simp
 rcases h with ⟨h1, rfl⟩ | ⟨h1, h2, rfl⟩ | ⟨h1, h2, l, h3, rfl⟩
 ·exact ⟨by simp, by simp⟩
 ·refine ⟨?_, by rw [List.length_append]; have : infL.length = 8 := rfl; omega⟩
  intro c hc
  rw [List.mem_append] at hc
  rcases hc with hc | hc
  ·exact hs.1 c hc
  ·exact (by decide : ∀ c ∈ infL, c < 256) c hc
 ·obtain ⟨l1, l2⟩ := PlQ.bd (fin_rung h1 h2) h3
  refine ⟨?_, by rw [List.length_append]; omega⟩
  intro c hc
  rw [List.mem_append] at hc
  rcases hc with hc | hc
  ·exact hs.1 c hc
  ·exact l1 c hc
theorem yText_any {x : Nat} {L : List Nat} {w : World} (hx : x < 18446744073709551616) (h : TxQ x L) :
  Ct 15 #[.float .f64 x] (.string (wdS L)) w := by
 have C := Lib.hid (fun W => ytext_any (w := W) hx h)
 obtain ⟨b1, b2⟩ := h.bd
 have CW := Lib.hid (fun W => vwide_any L W b1 (by omega))
 clear h b1 b2
 go_enter Tryz.func15, Tryz.ntmps15
 go_wp2_with fail
 refine (C.out _).mono ?_
 rintro e w1 ⟨rfl, b1⟩
 have B1 := Lib.hid b1
 clear b1
 go_wp2_with fail
 refine (CW.out _).mono ?_
 rintro e w2 ⟨rfl, b2⟩
 have B2 := Lib.hid (below_le B1.out b2)
 clear b2
 go_wp2
 go_ret
 exact ⟨rfl, B2.out⟩

end Go.Proofs.YtfcpkdafkmohkaaGreatDoor
namespace Go.Proofs.YtfcpkdafkmohkaaGreatDoor
open Go.RowKit
theorem kept_cell {W w' : World} (h : Below W.heap.size W w') (a : Addr) (v : Value) (hc : W.cell? a = some v) : w'.cell? a = some v := by
 rw [← hc]
 refine h.cell ?_
 rcases Nat.lt_or_ge a.block W.heap.size with h' | h'
 ·exact h'
 ·simp [World.cell?, Array.getElem?_eq_none h'] at hc
set_option maxRecDepth 100000 in
set_option maxHeartbeats 1000000 in
theorem tsigned_cap {T : Nat → List Nat → Prop} {x : Nat} {L : List Nat} {w : World} (f : FuncId) (pb : Addr) (hx : x < 18446744073709551616)
  (he : ∀ args (W : World), (callFunc f args).run Tryz.prog W = .ok (.enter f args) W)
  (hT : ∀ r l, r < 9218868437227405312 → T r l → (∀ c ∈ l, c < 256) ∧ l.length ≤ 99000 ∧ Ct f #[.float .f64 r, .pointer (some pb)] (.string (strOf l)) w)
  (h : SgQ T x L) : Ct 43 #[.float .f64 x, .func (Fn.func f) #[] #[.pointer (some pb)]] (.string (wdS L)) w := by
 have t0 := ord_neg x
 have CN := fun W => isNaN_any x W
 have CI := fun W => isInf0_any x W hx
 rcases h with ⟨h1, rfl⟩ | ⟨h1, h2, rfl⟩ | ⟨h1, h2, l, h3, rfl⟩
 ·rw [h1] at t0 CN
  exact tsigned_10nan x f pb _ w t0 (Lib.hid CN) (Lib.hid fun W => twide_any [78, 97, 78] W (by simp) (by simp))
 ·rw [h1] at t0 CN
  rw [h2] at CI
  unfold sgx
  cases hn : ngB x
  ·rw [hn] at t0
   exact tsigned_10inf x f pb _ w t0 (Lib.hid CN) (Lib.hid CI) (Lib.hid fun W => twide_any _ W (by decide) (by decide))
  ·rw [hn] at t0
   exact tsigned_11inf x f pb _ w t0 (Lib.hid CN) (Lib.hid CI) (Lib.hid fun W => twide_any _ W (by decide) (by decide))
 ·rw [h1] at t0 CN
  rw [h2] at CI
  obtain ⟨l1, l2, hc⟩ := hT _ l (fin_rung h1 h2) h3
  have CA := fun W => abs_any x W hx
  have CT : Hid (∀ W, W = w → Ct f #[.float .f64 (rung x), .pointer (some pb)] (.string (strOf l)) W) := Lib.hid (fun W hW => by
   subst hW
   exact hc)
  unfold sgx
  cases hn : ngB x
  ·rw [hn] at t0
   refine tsigned_10fin x f pb (strOf l) (strOf l) (rung x) _ w t0 (Lib.hid CN) (Lib.hid CI) (Lib.hid CA) he CT (Lib.hid (by rw [strOf_size]; omega)) ?_ (Lib.hid fun W => twide_any _ W l1 (by omega))
   rw [show (⟨#[]⟩ : ByteArray) = strOf [] from rfl, strOf_append]
   rfl
  ·rw [hn] at t0
   refine tsigned_11fin x f pb (strOf l) (strOf ([45] ++ l)) (rung x) _ w t0 (Lib.hid CN) (Lib.hid CI) (Lib.hid CA) he CT (Lib.hid (by rw [strOf_size]; omega)) ?_ (Lib.hid fun W => twide_any _ W ?_ ?_)
   ·rw [show (⟨#[45]⟩ : ByteArray) = strOf [45] from rfl, strOf_append]
   ·intro c hc
    rw [List.mem_append, List.mem_singleton] at hc
    rcases hc with rfl | hc
    ·omega
    ·exact l1 c hc
   ·rw [List.length_append, List.length_singleton]
    omega
theorem dL_bln (v : Nat) : (dL v).length ≤ bln v + 1 := by
 refine dL_le ?_ (by omega)
 rcases Nat.eq_zero_or_pos v with h | h
 ·subst h
  exact ten_pos _
 ·have h1 := (bln_bounds h).2.1
  have h2 : 2 ^ bln v ≤ 10 ^ bln v := Nat.pow_le_pow_left (by omega) _
  have h3 : 10 ^ bln v ≤ 10 ^ (bln v + 1) := Nat.pow_le_pow_right (by omega) (by omega)
  omega
theorem rhN_len {x : Nat} {p : Int} (hx : x < 9218868437227405312) (h1 : -1000 ≤ p) (h2 : p ≤ 1000) : (dL (rhN x p)).length ≤ 9000 := by
 obtain ⟨m, two, hG, _⟩ := rparts_fix x hx
 have hv := near_val hG p
 have hb := scA_bln hG h1 h2
 have h3 := dL_bln (rhN x p)
 rw [← hv] at h3 ⊢
 have h4 := bln_half (a := scA m (two + 1) p / scB (two + 1) p + 1)
 have h5 := bln_succ (scA m (two + 1) p / scB (two + 1) p)
 omega
set_option maxRecDepth 100000 in
set_option maxHeartbeats 1000000 in
theorem tFixed1_walk {x d : Nat} {pb : Addr} {S F : ByteArray} {w : World} (hp : w.cell? pb = some (.int .i64 d))
  (C1 : Hid (∀ W, W = w → Cp 54 #[.float .f64 x] W fun e w' => ∃ A, ∃ k : Nat, ∃ c m two, e = .returned (.tuple #[.slice A k c, .int .i64 two, .int .i64 0]) ∧ NV w' A k c m ∧ PartG x m two ∧ Below W.heap.size W w'))
  (C2 : Hid (∀ W A (k : Nat) c m two, NV W A k c m → PartG x m two → Ct 56 #[.slice A k c, .int .i64 two, .int .i64 d] (.string S) W))
  (C3 : Hid (∀ W, Ct 55 #[.string S, .int .i64 d] (.string F) W)) :
  Ct 53 #[.float .f64 x, .pointer (some pb)] (.string F) w := by
 have HP := Lib.hid hp
 clear hp
 go_enter Tryz.func53, Tryz.ntmps53
 go_wp2_with fail
 refine (C1.out _ rfl).mono ?_
 rintro e w1 ⟨A1, k, c1, m, two, rfl, g1, hp', b1'⟩
 have K2 : Hid (∀ W, Below w1.heap.size w1 W → Cp 56 #[.slice A1 k c1, .int .i64 two, .int .i64 d] W fun e w' => e = .returned (.string S) ∧ Below W.heap.size W w' ∧ ∀ a v, W.cell? a = some v → w'.cell? a = some v) := Lib.hid (fun W h => (C2.out W _ _ _ _ _ (g1.step h) hp').mono fun _ _ ⟨a, b⟩ => ⟨a, b, kept_cell b⟩)
 have hk1 := kept_cell b1' _ _ HP.out
 have hk2 : w1.drew.cell? pb = some (.int .i64 d) := hk1
 have HK2 := Lib.hid hk2
 have HD : Hid (Below w1.heap.size w1 w1.drew) := Lib.hid (below_drewN' (Below.refl _ _) 1)
 have K3 : Hid (∀ W, Cp 55 #[.string S, .int .i64 d] W fun e w' => e = .returned (.string F) ∧ Below W.heap.size W w' ∧ ∀ a v, W.cell? a = some v → w'.cell? a = some v) := Lib.hid (fun W => (C3.out W).mono fun _ _ ⟨a, b⟩ => ⟨a, b, kept_cell b⟩)
 have B1 := Lib.hid b1'
 clear g1 hp' b1' C1 C2 C3 hk2
 go_wp2
 go_region_held3 (fun w' => w'.cell? pb = some (.int .i64 d)) (go_keep) (first | (go_at_call 56; refine (K2.out _ HD.out).mono ?_; rintro e w2 ⟨rfl, b2, hk⟩; have k0 := hk pb (.int .i64 d) HK2.out) | (go_at_call 55; refine (K3.out _).mono ?_; rintro e w3 ⟨rfl, b3, hk3⟩; have k1 := hk3 pb (.int .i64 d) k0))
 all_goals
  have B2 : Below w.heap.size w w2 := below_le (below_drewN' B1.out 1) b2
  have B3 : Below w.heap.size w w3 := below_le B2 b3
  clear k0 k1 hk hk3 b2 b3 B2
  go_wp2
  go_ret
  exact ⟨rfl, B3⟩
def FxP (d r : Nat) (l : List Nat) : Prop := l = ptL (dL (rhN r d)) d
theorem FxP.bd {d r : Nat} {l : List Nat} (hd : d ≤ 20) (hr : r < 9218868437227405312) (h : FxP d r l) : (∀ c ∈ l, c < 256) ∧ l.length ≤ 9100 := by
 have hl := rhN_len (p := (d : Int)) hr (by omega) (by omega)
 have h9 : ∀ c ∈ dL (rhN r d), c < 256 := fun c hc => by
  have := dg10_iff.1 (dL_dig _ c hc)
  omega
 rw [h]
 refine ⟨ptL_lt h9, ?_⟩
 by_cases h0 : d = 0
 ·subst h0
  unfold ptL
  rw [if_pos rfl]
  omega
 ·rw [ptL_len _ _ h0]
  omega
theorem tFixed1_any {r d : Nat} {l : List Nat} {pb : Addr} {w : World} (hr : r < 9218868437227405312) (hd : d ≤ 20) (hz : TzTab w) (hp : w.cell? pb = some (.int .i64 d)) (h : FxP d r l) :
  Ct 53 #[.float .f64 r, .pointer (some pb)] (.string (strOf l)) w := by
 rw [h]
 have hl := rhN_len (p := (d : Int)) hr (by omega) (by omega)
 have h9 : ∀ c ∈ dL (rhN r d), c < 256 := fun c hc => by
  have := dg10_iff.1 (dL_dig _ c hc)
  omega
 refine tFixed1_walk hp (Lib.hid fun W hW => ?_) (Lib.hid fun W A k c m two hA hG => tnear_any hA hG (by omega) (by omega)) (Lib.hid fun W => tpointed_any _ d W h9 (by omega) (by omega))
 subst hW
 refine (pparts_g r W hr hz).mono ?_
 rintro e w' ⟨m, two, A, k, c, rfl, gA, gp, gb⟩
 exact ⟨A, k, c, m, two, rfl, gA, gp, gb⟩
set_option maxRecDepth 100000 in
set_option maxHeartbeats 1000000 in
theorem tfixed_bad (x : Nat) (d : Int) (w : World) (hd : d < 0 ∨ 20 < d) :
  Ct 19 #[.float .f64 x, .int .i64 d] (.tuple #[.string ⟨#[]⟩, .int .i64 1]) w := by
 rcases (show d < 0 ∨ (¬ d < 0 ∧ 20 < d) by omega) with h1 | ⟨h1, h2⟩
 all_goals
  go_enter Tryz.func19, Tryz.ntmps19
  go_wp2
  go_ret2
  exact ⟨rfl, (Below.refl _ _).alloc (Nat.le_refl _) _⟩
set_option maxRecDepth 100000 in
set_option maxHeartbeats 1000000 in
theorem tfixed_big (x a : Nat) (d : Int) (F : ByteArray) (w : World) (h1 : ¬ d < 0) (h2 : ¬ 20 < d)
  (CA : Hid (∀ W, Cq 52 #[.float .f64 x] (.float .f64 a) W))
  (t1 : (FloatKind.f64.format.order a 4921056587992461136 == some .gt || FloatKind.f64.format.order a 4921056587992461136 == some .eq) = true)
  (CT : Hid (∀ W, Below w.heap.size w W → Ct 14 #[.float .f64 x] (.string F) W)) :
  Ct 19 #[.float .f64 x, .int .i64 d] (.tuple #[.string F, .int .i64 0]) w := by
 have B0 := Lib.hid ((Below.refl w.heap.size w).alloc (Nat.le_refl _) (.cells #[.int .i64 d] 3))
 go_enter Tryz.func19, Tryz.ntmps19
 go_wp2_with fail
 refine (CA.out _).mono ?_
 rintro e w' ⟨rfl, rfl⟩
 go_wp2_with fail
 refine (CT.out _ B0.out).mono ?_
 rintro e w2 ⟨rfl, b2⟩
 have B2 := Lib.hid (below_le B0.out b2)
 clear b2
 go_wp2
 go_ret2
 exact ⟨rfl, B2.out⟩
set_option maxRecDepth 100000 in
set_option maxHeartbeats 1000000 in
theorem tfixed_fin (x a : Nat) (d : Int) (F : ByteArray) (w : World) (h1 : ¬ d < 0) (h2 : ¬ 20 < d)
  (CA : Hid (∀ W, Cq 52 #[.float .f64 x] (.float .f64 a) W))
  (t1 : (FloatKind.f64.format.order a 4921056587992461136 == some .gt || FloatKind.f64.format.order a 4921056587992461136 == some .eq) = false)
  (CS : Hid (∀ W pb, Below w.heap.size w W → W.cell? pb = some (.int .i64 d) → Ct 43 #[.float .f64 x, .func (Fn.func 53) #[] #[.pointer (some pb)]] (.string F) W)) :
  Ct 19 #[.float .f64 x, .int .i64 d] (.tuple #[.string F, .int .i64 0]) w := by
 have hmf : ∀ (fn : Fn) (first cap : Array Value) (w : World), (Instr.makeFunc fn first cap).run Tryz.prog w = .ok (.func fn first cap) w := fun _ _ _ _ => rfl
 have B0 := Lib.hid ((Below.refl w.heap.size w).alloc (Nat.le_refl _) (.cells #[.int .i64 d] 3))
 have hc : (w.alloc (.cells #[.int .i64 d] 3)).cell? ⟨w.heap.size, 0, none⟩ = some (.int .i64 d) := by rw [World.cell?_alloc_new]; rfl
 have HC := Lib.hid hc
 clear hc
 go_enter Tryz.func19, Tryz.ntmps19
 go_wp2_with fail
 refine (CA.out _).mono ?_
 rintro e w' ⟨rfl, rfl⟩
 go_wp2_with fail
 refine (CS.out _ _ B0.out HC.out).mono ?_
 rintro e w2 ⟨rfl, b2⟩
 have B2 := Lib.hid (below_le B0.out b2)
 clear b2
 go_wp2
 go_ret2
 exact ⟨rfl, B2.out⟩
def FxR (x : Nat) (d : Int) (S : ByteArray) (K : Int) : Prop :=
 ((d < 0 ∨ 20 < d) ∧ S = ⟨#[]⟩ ∧ K = 1) ∨ (¬ (d < 0 ∨ 20 < d) ∧ K = 0 ∧ ∃ L, S = wdS L ∧ ((fnan x = false ∧ 4921056587992461136 ≤ rung x ∧ TxQ x L) ∨ ((fnan x = true ∨ rung x < 4921056587992461136) ∧ SgQ (FxP d.toNat) x L)))
theorem sgq_ex {T : Nat → List Nat → Prop} (x : Nat) (hT : ∀ r, r < 9218868437227405312 → ∃ l, T r l) : ∃ L, SgQ T x L := by
 unfold SgQ
 cases h1 : fnan x
 ·cases h2 : finf x
  ·obtain ⟨l, hl⟩ := hT _ (fin_rung h1 h2)
   exact ⟨_, .inr (.inr ⟨rfl, rfl, l, hl, rfl⟩)⟩
  ·exact ⟨_, .inr (.inl ⟨rfl, rfl, rfl⟩)⟩
 ·exact ⟨_, .inl ⟨rfl, rfl⟩⟩
theorem fxr_ex (x : Nat) (d : Int) : ∃ S K, FxR x d S K := by
 by_cases hd : d < 0 ∨ 20 < d
 ·exact ⟨_, _, .inl ⟨hd, rfl, rfl⟩⟩
 ·by_cases h : fnan x = false ∧ 4921056587992461136 ≤ rung x
  ·obtain ⟨L, hL⟩ := txq_ex x
   exact ⟨_, _, .inr ⟨hd, rfl, L, rfl, .inl ⟨h.1, h.2, hL⟩⟩⟩
  ·obtain ⟨L, hL⟩ := sgq_ex (T := FxP d.toNat) x (fun r _ => ⟨_, rfl⟩)
   refine ⟨_, _, .inr ⟨hd, rfl, L, rfl, .inr ⟨?_, hL⟩⟩⟩
   cases h1 : fnan x
   ·right
    have : ¬ 4921056587992461136 ≤ rung x := fun k => h ⟨h1, k⟩
    omega
   ·exact .inl rfl
theorem ord_ge_b {a b : Nat} (ha : a ≤ 9218868437227405312) (hb : b ≤ 9218868437227405312) : (FloatKind.f64.format.order a b == some .gt || FloatKind.f64.format.order a b == some .eq) = decide (b ≤ a) := by
 rw [ord_gt_pos ha hb, ord_eq_pos ha hb, Bool.eq_iff_iff, Bool.or_eq_true, decide_eq_true_iff, decide_eq_true_iff, decide_eq_true_iff]
 omega
theorem ord_nan_b {a b : Nat} (ha : 9218868437227405312 < a) (ha2 : a < 9223372036854775808) : (FloatKind.f64.format.order a b == some .gt || FloatKind.f64.format.order a b == some .eq) = false := by
 have h : 9218868437227405312 < rung a := by unfold rung; omega
 rw [show FloatKind.f64.format.order a b = Ieee.double.order a b from rfl, order_nan (.inl h)]
 rfl
theorem rung_lt (x : Nat) : rung x < 9223372036854775808 := by unfold rung; omega
theorem tFixed_any {x : Nat} {d : Int} {S : ByteArray} {K : Int} {w : World} (hx : x < 18446744073709551616) (ht : Tab10 w) (hz : TzTab w) (h : FxR x d S K) :
  Ct 19 #[.float .f64 x, .int .i64 d] (.tuple #[.string S, .int .i64 K]) w := by
 have CA := Lib.hid (fun W => abs_any x W hx)
 rcases h with ⟨hd, rfl, rfl⟩ | ⟨hd, rfl, L, rfl, ⟨h1, h2, hL⟩ | ⟨h1, hL⟩⟩
 ·exact tfixed_bad x d w hd
 ·have h3 := of_decide_eq_false h1
  exact tfixed_big x (rung x) d _ w (by omega) (by omega) CA ((ord_ge_b (by omega) (by omega)).trans (decide_eq_true h2)) (Lib.hid fun W hW => tText_any hx (ht.on hW) (tz_on hz hW) hL)
 ·obtain ⟨k, rfl⟩ : ∃ k : Nat, d = (k : Int) := ⟨d.toNat, by omega⟩
  rw [Int.toNat_natCast] at hL
  refine tfixed_fin x (rung x) k _ w (by omega) (by omega) CA ?_ (Lib.hid fun W pb hW hp => tsigned_cap (T := FxP k) 53 pb hx (fun args W' => by go_simp) (fun r l hr hl => ?_) hL)
  ·have hlt := rung_lt x
   rcases Nat.lt_or_ge 9218868437227405312 (rung x) with h3 | h3
   ·exact ord_nan_b h3 hlt
   ·rw [ord_ge_b h3 (by omega)]
    refine decide_eq_false ?_
    rcases h1 with h1 | h1
    ·have := of_decide_eq_true h1
     omega
    ·omega
  ·obtain ⟨l1, l2⟩ := hl.bd (by omega) hr
   exact ⟨l1, by omega, tFixed1_any hr (by omega) (tz_on hz hW) hp hl⟩

end Go.Proofs.YtfcpkdafkmohkaaGreatDoor
namespace Go.Proofs.YtfcpkdafkmohkaaGreatDoor
open Go.RowKit
theorem amt_same {x : Nat} (hx : x < 18446744073709551616) (hg : ngB x = false) : AmtOf x x ∧ (0 < rung x → x = rung x) := by
 unfold ngB fneg at hg
 unfold AmtOf
 by_cases h0 : 0 < rung x
 ·rw [decide_eq_true h0, Bool.and_true] at hg
  have : ¬ x / 9223372036854775808 % 2 = 1 := fun k => by rw [k] at hg; cases hg
  have hr : rung x = x := by
   unfold rung
   omega
  exact ⟨.inl hr.symm, fun _ => hr.symm⟩
 ·exact ⟨.inr ⟨by omega, rfl⟩, fun h => absurd h h0⟩
theorem neg_run {x : Nat} (hx : x < 18446744073709551616) (hg : ngB x = true) (W' : World) : (Op.unary UnOp.neg (.float .f64 x)).run Tryz.prog W' = .ok (.float .f64 (rung x)) W' := by
 have hf : fneg x = true := by
  unfold ngB at hg
  exact (Bool.and_eq_true _ _ ▸ hg).1
 have hhi := wd_hi hx hf
 have e := negW_hi (rung_lt x)
 rw [← hhi] at e
 have h4 : (Op.unary UnOp.neg (.float .f64 x)).run Tryz.prog W' = .ok (.float .f64 (negW x)) W' := rfl
 rw [h4, e]
end Go.Proofs.YtfcpkdafkmohkaaGreatDoor
namespace Go.Proofs.YtfcpkdafkmohkaaGreatDoor
open Go.RowKit
theorem sg_app (x : Nat) (l : List Nat) : strOf (sgx x) ++ strOf l = strOf (sgx x ++ l) := strOf_append _ _
theorem sgx_bd (x : Nat) {l : List Nat} (h : ∀ c ∈ l, c < 256) : (∀ c ∈ sgx x ++ l, c < 256) ∧ (sgx x ++ l).length ≤ l.length + 1 := by
 unfold sgx
 split
 ·refine ⟨?_, by simp⟩
  intro c hc
  rcases List.mem_cons.1 hc with rfl | hc
  ·omega
  ·exact h c hc
 ·exact ⟨by simpa using h, by simp⟩
theorem SgQ.text {T : Nat → List Nat → Prop} {x : Nat} {L : List Nat} (h : SgQ T x L) (hb : fnan x = true ∨ finf x = true) : TxQ x L := by
 rcases h with ⟨h1, h2⟩ | ⟨h1, h2, h3⟩ | ⟨h1, h2, l, h3, h4⟩
 ·exact .inl ⟨h1, h2⟩
 ·exact .inr (.inl ⟨h1, h2, h3⟩)
 ·rcases hb with hb | hb
  ·rw [h1] at hb; cases hb
  ·rw [h2] at hb; cases hb
theorem SgQ.fin {T : Nat → List Nat → Prop} {x : Nat} {L : List Nat} (h : SgQ T x L) (h1 : fnan x = false) (h2 : finf x = false) : ∃ l, T (rung x) l ∧ L = sgx x ++ l := by
 rcases h with ⟨h3, _⟩ | ⟨_, h3, _⟩ | ⟨_, _, l, h3, h4⟩
 ·rw [h1] at h3; cases h3
 ·rw [h2] at h3; cases h3
 ·exact ⟨l, h3, h4⟩
theorem dg_256 {D : List Nat} (h : ∀ c ∈ D, dg10 c = true) : ∀ c ∈ D, c < 256 := fun c hc => by
 have := dg10_iff.1 (h c hc)
 omega
end Go.Proofs.YtfcpkdafkmohkaaGreatDoor
namespace Go.Proofs.YtfcpkdafkmohkaaGreatDoor
open Go.RowKit
theorem yFixed_any {x : Nat} {d : Int} {S : ByteArray} {K : Int} {w : World} (hx : x < 18446744073709551616) (h : FxR x d S K) :
  Ct 20 #[.float .f64 x, .int .i64 d] (.tuple #[.string S, .int .i64 K]) w := by
 have CN := fun W => isNaN_any x W
 have CA := Lib.hid (fun W => abs_any x W hx)
 rcases h with ⟨hd, rfl, rfl⟩ | ⟨hd, rfl, L, rfl, ⟨h1, h2, hL⟩ | ⟨h1, hL⟩⟩
 ·refine (yfixed_bad x d w hd).mono ?_
  rintro e w' ⟨rfl, rfl⟩
  exact ⟨rfl, Below.refl _ _⟩
 ·have h3 := of_decide_eq_false h1
  rw [h1] at CN
  exact yfixed_big x (rung x) d _ w (by omega) (by omega) (Lib.hid CN) CA ((ord_ge_b (by omega) (by omega)).trans (decide_eq_true h2)) (Lib.hid fun W => yText_any hx hL)
 ·cases hn : fnan x
  ·have hB : rung x < 4921056587992461136 := by
    rcases h1 with h1 | h1
    ·rw [hn] at h1; cases h1
    ·exact h1
   have hinf : finf x = false := by
    unfold finf
    exact decide_eq_false (by omega)
   have hf := fin_rung hn hinf
   rw [hn] at CN
   obtain ⟨k, rfl⟩ : ∃ k : Nat, d = (k : Int) := ⟨d.toNat, by omega⟩
   rw [Int.toNat_natCast] at hL
   have hk : k ≤ 20 := by omega
   obtain ⟨l, hl, rfl⟩ := hL.fin hn hinf
   obtain ⟨q1, q2⟩ := hl.bd hk hf
   obtain ⟨s1, s2⟩ := sgx_bd x q1
   have CW := Lib.hid (fun W => vwide_any (sgx x ++ l) W s1 (by omega))
   have hPs : Hid ((strOf l).size ≤ 20000) := Lib.hid (by rw [strOf_size]; omega)
   have t1 : (FloatKind.f64.format.order (rung x) 4921056587992461136 == some .gt || FloatKind.f64.format.order (rung x) 4921056587992461136 == some .eq) = false := by
    rw [ord_ge_b (by omega) (by omega)]
    exact decide_eq_false (by omega)
   have t0 := ord_neg x
   rw [hn, Bool.not_false, Bool.true_and] at t0
   have hlen := rhN_len (p := (k : Int)) hf (by omega) (by omega)
   have hdg := dL_dig (rhN (rung x) (k : Int))
   have hpos := dL_pos (rhN (rung x) (k : Int))
   have CRy : ∀ y, AmtOf x y → Hid (∀ W, Ct 57 #[.float .f64 y, .int .i64 (k : Int)] (.string (strOf (dL (rhN (rung x) (k : Int))))) W) := fun y hy => Lib.hid fun W => yrounded_amt hx hf hy (by omega) (by omega)
   unfold FxP at hl
   obtain ⟨l0, hl0⟩ : ∃ l0, dL (rhN (rung x) (k : Int)) = l0 := ⟨_, rfl⟩
   rw [hl0] at hl hlen hdg hpos CRy
   have h256 := dg_256 hdg
   have hsg := sg_app x l
   rcases Nat.eq_zero_or_pos k with hk0 | hk0
   ·subst hk0
    have hll : strOf (List.replicate 0 48 ++ l0) = strOf l := by
     rw [hl]
     unfold ptL
     rw [if_pos rfl]
     rfl
    cases hg : ngB x
    ·rw [hg] at t0
     unfold sgx at hsg
     rw [hg, if_neg (by simp)] at hsg
     unfold sgx
     rw [hg, if_neg (by simp)]
     unfold sgx at CW
     rw [hg, if_neg (by simp)] at CW
     exact yfixed_00 x (rung x) l0.length 0 l0 _ _ _ w t0 (Lib.hid CN) CA t1 (CRy x (amt_same hx hg).1) rfl (by omega) (by omega) hll hPs hsg CW
    ·rw [hg] at t0
     unfold sgx at hsg
     rw [hg, if_pos rfl] at hsg
     unfold sgx
     rw [hg, if_pos rfl]
     unfold sgx at CW
     rw [hg, if_pos rfl] at CW
     exact yfixed_10 x (rung x) (rung x) l0.length 0 l0 _ _ _ w t0 (neg_run hx hg) (Lib.hid CN) CA t1 (CRy _ (.inl rfl)) rfl (by omega) (by omega) hll hPs hsg CW
   ·obtain ⟨z, hz⟩ : ∃ z, k + 1 - l0.length = z := ⟨_, rfl⟩
    have hb := bl_strOf (mem_rep (z := z) h256)
    have hM : (strOf (List.replicate z 48 ++ l0)).size = z + l0.length := by rw [strOf_size, List.length_append, List.length_replicate]
    have hF : Hid ((strOf (List.replicate z 48 ++ l0)).extract 0 (z + l0.length - k) ++ ⟨#[46]⟩ ++ (strOf (List.replicate z 48 ++ l0)).extract (z + l0.length - k) (z + l0.length) = strOf l) := Lib.hid (by
     rw [ext_take, show z + l0.length = (strOf (List.replicate z 48 ++ l0)).size from hM.symm, ext_drop, hb, dot_str, strOf_append, strOf_append, hM, hl]
     unfold ptL
     rw [if_neg (by omega), hz, List.append_assoc, List.singleton_append])
    cases hg : ngB x
    ·rw [hg] at t0
     unfold sgx at hsg
     rw [hg, if_neg (by simp)] at hsg
     unfold sgx
     rw [hg, if_neg (by simp)]
     unfold sgx at CW
     rw [hg, if_neg (by simp)] at CW
     exact yfixed_01 x (rung x) k l0.length z (z + l0.length) (z + l0.length - k) l0 _ _ _ _ w hk0 hk t0 (Lib.hid CN) CA t1 (CRy x (amt_same hx hg).1) rfl (by omega) hz rfl hM rfl (by omega) hF hPs hsg CW
    ·rw [hg] at t0
     unfold sgx at hsg
     rw [hg, if_pos rfl] at hsg
     unfold sgx
     rw [hg, if_pos rfl]
     unfold sgx at CW
     rw [hg, if_pos rfl] at CW
     exact yfixed_11 x (rung x) (rung x) k l0.length z (z + l0.length) (z + l0.length - k) l0 _ _ _ _ w hk0 hk t0 (neg_run hx hg) (Lib.hid CN) CA t1 (CRy _ (.inl rfl)) rfl (by omega) hz rfl hM rfl (by omega) hF hPs hsg CW
  ·rw [hn] at CN
   exact yfixed_nan x d _ w (by omega) (by omega) (Lib.hid CN) (Lib.hid fun W => yText_any hx (hL.text (.inl hn)))
set_option maxRecDepth 100000 in
set_option maxHeartbeats 1000000 in
theorem fixed_any (x : Nat) (d : Int) (w : World) (hx : x < 18446744073709551616) (ht : Tab10 w) (hz : TzTab w) :
  Ct 5 #[.float .f64 x, .int .i64 d] (.bool true) w := by
 obtain ⟨S, K, hs⟩ := fxr_ex x d
 have C1 := Lib.hid (fun W (hW : W = w) => tFixed_any (w := W) hx (hW ▸ ht) (hW ▸ hz) hs)
 have C2 := Lib.hid (fun W => yFixed_any (w := W) hx hs)
 have C6 := Lib.hid (fun W (h : Below w.heap.size w W) => awake_any W (ht.on h) (tz_on hz h))
 clear hx ht hz hs
 go_enter Tryz.func5, Tryz.ntmps5
 go_wp2_with fail
 refine (C1.out _ rfl).mono ?_
 rintro e w1 ⟨rfl, b1⟩
 have B1 := Lib.hid b1
 clear b1
 go_wp2_with fail
 refine (C2.out _).mono ?_
 rintro e w2 ⟨rfl, b2⟩
 have B2 := Lib.hid (below_le B1.out b2)
 clear b2
 go_wp2_with fail
 refine (C6.out _ B2.out).mono ?_
 rintro e w5 ⟨rfl, b5⟩
 have B5 := Lib.hid (below_le B2.out b5)
 clear b5
 go_wp2
 go_ret
 exact ⟨rfl, B5.out⟩

end Go.Proofs.YtfcpkdafkmohkaaGreatDoor
