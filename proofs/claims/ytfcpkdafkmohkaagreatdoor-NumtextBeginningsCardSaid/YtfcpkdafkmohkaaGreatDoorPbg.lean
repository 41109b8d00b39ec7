/-
  Merged texts (Vu, Vv, Lk).
-/
import Derived.Test.YtfcpkdafkmohkaaGreatDoorPbf
import Derived.Shelf.Strings.Builder1
import Derived.Shelf.Strings.Builder2
import Derived.Shelf.Strings.OnBuilder
import Derived.Shelf.Strings.Trim
import Derived.Shelf.Small.Utf8
import Derived.Shelf.Small.Bits
import Derived.Shelf.Small.Strs
import Derived.Shelf.Small.Wraps
import Derived.Shelf.Strings.BuilderF
import Derived.Shelf.Strings.BuilderK
import Derived.Shelf.Strconv.Itoa0
import Derived.Shelf.Strconv.Itoa1
import Derived.Shelf.LaysM
import Derived.Shelf.Strconv.Itoa2
import Derived.Shelf.Strconv.Itoa3
import Derived.Shelf.Strings.Search1
import Derived.Shelf.Strings.Prefix
import Derived.Shelf.Unicode.Latin
import Derived.Shelf.Strings.Runes
import Derived.Shelf.Strings.AsciiSet
import Derived.Shelf.Bits.Mul64
import Derived.Shelf.Strings.Repeat
import Derived.Shelf.Unicode.DecodeSlow
import Derived.Shelf.Unicode.CaseLookup
import Derived.Shelf.Unicode.CaseConvert
import Derived.Shelf.Unicode.CaseTo
import Derived.Shelf.Unicode.CaseLaid
import Derived.Shelf.Strings.SlTrimAscii
import Derived.Test.YtfcpkdafkmohkaaGreatDoorProg
import GoSem.Core.Utf8
import Derived.WalkKit
import Derived.WalkSpells
import Derived.WalkLawsBesides
import Derived.Deep.QuietTactic
import Derived.BigQuiet
import Derived.Lib.Hide
import Derived.Deep.OwnRows
import Derived.Laws.CopyOwn
import Derived.Deep.AppendLies
import Derived.Lib.BitFns
import Derived.Lib.Strings
import Derived.Laws.BitsAllLaws
import Derived.Lib.LaidTab
import Derived.ProofKit
import Derived.OpenShut
import Derived.SizedLaws
import Derived.Laws.BytesString
import Derived.Laws.Cells
import Derived.Deep.RegionWith
import Derived.BigRegion
import Derived.Test.YtfcpkdafkmohkaaGreatDoorRows
import Derived.Deep.RegionHeld3
import Derived.Laws.Closers25b
import Ieee.Arith
import GoSem.Core.Float
import Derived.Lib.ItoaNum
import Derived.Deep.DeepCutAuto
import Derived.Laws.FloatArith
import Derived.Laws.Externs
import Derived.Lib.SlTrimSet
import Derived.Lib.Case
import Derived.Deep.WholeRow
import Derived.Laws.Tables
import Derived.Laws.EntriesVeiled
import Derived.Lib.AppendIntMem
namespace Go.Proofs.YtfcpkdafkmohkaaGreatDoor
open Go.RowKit
set_option maxRecDepth 100000 in
set_option maxHeartbeats 4000000 in
theorem yint_bad {s b u : ByteArray} {Q : ByteArray → Prop} {p r0 : Int} {M P S : Bool} {w : World}
  (CA : Hid (∀ W, Cp 82 #[.string s] W fun e w' => (∃ t, e = .returned (.string t) ∧ Q t) ∧ Below W.heap.size W w'))
  (CB : Hid (∀ t, Q t → ∀ W, Ct 70 #[.string t] (.string b) W))
  (CM : Hid (∀ W, Cq 83 #[.string b, .string ⟨#[45]⟩] (.bool M) W))
  (CP : Hid (M = false → ∀ W, Cq 83 #[.string b, .string ⟨#[43]⟩] (.bool P) W))
  (hu1 : Hid ((M || P) = true → 1 ≤ b.size ∧ b.extract 1 b.size = u)) (hu0 : Hid ((M || P) = false → b = u))
  (hS : Hid ((p == 0 || p == 16) = S)) (hr0 : Hid ((if p = 0 then 10 else p) = r0)) (hbad : r0 < 2 ∨ 36 < r0) :
  Ct 33 #[.string s, .int .i64 p] (.float .f64 nanW) w := by
 have HB := Lib.hid hbad
 clear hbad
 have CN := Lib.hid (fun W => ynan_any W)
 go_enter Tryz.func33, Tryz.ntmps33
 go_wp2_with fail
 refine (CA.out _).mono ?_
 rintro e w1 ⟨⟨t, rfl, ht⟩, b1⟩
 have B1 := Lib.hid b1
 clear b1
 have CB := Lib.hid (CB.out t ht)
 clear ht
 go_wp2_with fail
 refine (CB.out _).mono ?_
 rintro e w2 ⟨rfl, b2⟩
 have B2 := Lib.hid (below_le B1.out b2)
 clear b2
 go_wp2_with fail
 refine (CM.out _).mono ?_
 rintro e w' ⟨rfl, rfl⟩
 go_upto_region 3 with (fail)
 go_cut [6, 19] (fun m c wx => m = .bool M ∧ c = .bool (M || P) ∧ w2 = wx)
 case first =>
  rcases Bool.eq_false_or_eq_true M with hM | hM
  ·go_wp2
   go_meet
   case rel => exact ⟨by rw [hM], by rw [hM, Bool.true_or], rfl⟩
  ·go_wp2_with fail
   refine (CP.out hM _).mono ?_
   rintro e w' ⟨rfl, rfl⟩
   go_wp2
   go_meet
   case rel => exact ⟨by rw [hM], by rw [hM, Bool.false_or], rfl⟩
 case rest =>
 obtain ⟨rfl, rfl, rfl⟩ := hcut
 obtain ⟨MP, hMP⟩ : ∃ MP, (M || P) = MP := ⟨_, rfl⟩
 rw [hMP] at hu1 hu0 ⊢
 clear hMP
 go_upto_if 19 with (fail)
 go_cut [5] (fun c wx => c = .string u ∧ w2 = wx)
 case first =>
  cases MP
  ·have a1 := Lib.hid (hu0.out rfl)
   go_wp2
   go_meet
   case rel => exact ⟨by rw [a1.out], rfl⟩
  ·obtain ⟨a1, a2⟩ := hu1.out rfl
   have a3 : (1 : Int) ≤ (b.size : Int) := by omega
   go_wp2
   go_meet
   case rel => exact ⟨rfl, rfl⟩
 case rest =>
 obtain ⟨rfl, rfl⟩ := hcut
 go_upto_region 5 with (fail)
 go_cut [7] (fun c wx => c = .bool S ∧ w2 = wx)
 case first =>
  have hS' := hS.out
  clear hr0
  by_cases p0 : p = 0
  ·subst p0
   have hS2 := Lib.hid hS'
   clear hS'
   go_wp2
   go_meet
   case rel => exact ⟨by rw [← hS2.out]; rfl, rfl⟩
  ·have t0 : (p == 0) = false := by rw [beq_eq_false_iff_ne]; exact p0
   rw [t0, Bool.false_or] at hS'
   have hS2 := Lib.hid hS'
   clear hS' p0
   go_wp2
   go_meet
   case rel => exact ⟨by rw [hS2.out], rfl⟩
 case rest =>
 obtain ⟨rfl, rfl⟩ := hcut
 go_upto_region 6 with (fail)
 go_cut [29] (fun c wx => c = .bool (p == 0) ∧ w2 = wx)
 case first =>
  go_wp2
  go_meet
  case rel => exact ⟨rfl, rfl⟩
 case rest =>
 obtain ⟨rfl, rfl⟩ := hcut
 go_upto_if 29 with (fail)
 go_cut [1] (fun c wx => c = .int .i64 r0 ∧ w2 = wx)
 case first =>
  by_cases p0 : p = 0
  ·have t0 : (p == 0) = true := by rw [beq_iff_eq]; exact p0
   have hr := hr0.out
   rw [if_pos p0] at hr
   have hr2 := Lib.hid hr
   rw [t0]
   clear hr t0 p0
   go_wp2
   go_meet
   case rel => exact ⟨by rw [← hr2.out], rfl⟩
  ·have t0 : (p == 0) = false := by rw [beq_eq_false_iff_ne]; exact p0
   have hr := hr0.out
   rw [if_neg p0] at hr
   have hr2 := Lib.hid hr
   rw [t0]
   clear hr t0 p0
   go_wp2
   go_meet
   case rel => exact ⟨by rw [← hr2.out], rfl⟩
 case rest =>
 obtain ⟨rfl, rfl⟩ := hcut
 rcases HB.out with h | h
 ·go_wp2_with fail
  refine (CN.out _).mono ?_
  rintro e w' ⟨rfl, rfl⟩
  go_wp2
  go_ret
  exact ⟨rfl, B2.out⟩
 ·have h' : ¬ r0 < 2 := by omega
  go_wp2_with fail
  refine (CN.out _).mono ?_
  rintro e w' ⟨rfl, rfl⟩
  go_wp2
  go_ret
  exact ⟨rfl, B2.out⟩
set_option maxRecDepth 100000 in
set_option maxHeartbeats 4000000 in
theorem yint_none {s b u : ByteArray} {Q : ByteArray → Prop} {p r0 : Int} {M P S : Bool} {w : World} {v : ByteArray} {R J : Nat} {X0 X1 : Bool}
  (CA : Hid (∀ W, Cp 82 #[.string s] W fun e w' => (∃ t, e = .returned (.string t) ∧ Q t) ∧ Below W.heap.size W w'))
  (CB : Hid (∀ t, Q t → ∀ W, Ct 70 #[.string t] (.string b) W))
  (CM : Hid (∀ W, Cq 83 #[.string b, .string ⟨#[45]⟩] (.bool M) W))
  (CP : Hid (M = false → ∀ W, Cq 83 #[.string b, .string ⟨#[43]⟩] (.bool P) W))
  (hu1 : Hid ((M || P) = true → 1 ≤ b.size ∧ b.extract 1 b.size = u)) (hu0 : Hid ((M || P) = false → b = u))
  (hS : Hid ((p == 0 || p == 16) = S)) (hr0 : Hid ((if p = 0 then 10 else p) = r0))
  (g1 : ¬ r0 < 2) (g2 : ¬ 36 < r0)
  (CX : Hid (S = true → ∀ W, Cq 83 #[.string u, .string ⟨#[48, 120]⟩] (.bool X0) W))
  (CY : Hid (S = true → X0 = false → ∀ W, Cq 83 #[.string u, .string ⟨#[48, 88]⟩] (.bool X1) W))
  (hv1 : Hid ((S && (X0 || X1)) = true → 2 ≤ u.size ∧ u.extract 2 u.size = v ∧ R = 16)) (hv0 : Hid ((S && (X0 || X1)) = false → u = v ∧ (R : Int) = r0))
  (hz : v.size ≤ 281474976710656) (hj : J ≤ v.size) (hd : ∀ i, i < J → dgt (btn v i) < R) (he : J < v.size → ¬ dgt (btn v J) < R) (hR : R ≤ 36) (j0 : J = 0) :
  Ct 33 #[.string s, .int .i64 p] (.float .f64 nanW) w := by
 have a4 : (v.size : Int) ≤ 281474976710656 := by omega
 have HJ := Lib.hid hj
 have HD := Lib.hid hd
 have HE := Lib.hid he
 have J0 := Lib.hid j0
 have HR := Lib.hid hR
 have HG1 := Lib.hid g1
 have HG2 := Lib.hid g2
 clear hz hj hd he j0 hR g1 g2
 have CN := Lib.hid (fun W => ynan_any W)
 go_enter Tryz.func33, Tryz.ntmps33
 go_wp2_with fail
 refine (CA.out _).mono ?_
 rintro e w1 ⟨⟨t, rfl, ht⟩, b1⟩
 have B1 := Lib.hid b1
 clear b1
 have CB := Lib.hid (CB.out t ht)
 clear ht
 go_wp2_with fail
 refine (CB.out _).mono ?_
 rintro e w2 ⟨rfl, b2⟩
 have B2 := Lib.hid (below_le B1.out b2)
 clear b2
 go_wp2_with fail
 refine (CM.out _).mono ?_
 rintro e w' ⟨rfl, rfl⟩
 go_upto_region 3 with (fail)
 go_cut [6, 19] (fun m c wx => m = .bool M ∧ c = .bool (M || P) ∧ w2 = wx)
 case first =>
  rcases Bool.eq_false_or_eq_true M with hM | hM
  ·go_wp2
   go_meet
   case rel => exact ⟨by rw [hM], by rw [hM, Bool.true_or], rfl⟩
  ·go_wp2_with fail
   refine (CP.out hM _).mono ?_
   rintro e w' ⟨rfl, rfl⟩
   go_wp2
   go_meet
   case rel => exact ⟨by rw [hM], by rw [hM, Bool.false_or], rfl⟩
 case rest =>
 obtain ⟨rfl, rfl, rfl⟩ := hcut
 obtain ⟨MP, hMP⟩ : ∃ MP, (M || P) = MP := ⟨_, rfl⟩
 rw [hMP] at hu1 hu0 ⊢
 clear hMP
 go_upto_if 19 with (fail)
 go_cut [5] (fun c wx => c = .string u ∧ w2 = wx)
 case first =>
  cases MP
  ·have a1 := Lib.hid (hu0.out rfl)
   go_wp2
   go_meet
   case rel => exact ⟨by rw [a1.out], rfl⟩
  ·obtain ⟨a1, a2⟩ := hu1.out rfl
   have a3 : (1 : Int) ≤ (b.size : Int) := by omega
   go_wp2
   go_meet
   case rel => exact ⟨rfl, rfl⟩
 case rest =>
 obtain ⟨rfl, rfl⟩ := hcut
 go_upto_region 5 with (fail)
 go_cut [7] (fun c wx => c = .bool S ∧ w2 = wx)
 case first =>
  have hS' := hS.out
  clear hr0
  by_cases p0 : p = 0
  ·subst p0
   have hS2 := Lib.hid hS'
   clear hS'
   go_wp2
   go_meet
   case rel => exact ⟨by rw [← hS2.out]; rfl, rfl⟩
  ·have t0 : (p == 0) = false := by rw [beq_eq_false_iff_ne]; exact p0
   rw [t0, Bool.false_or] at hS'
   have hS2 := Lib.hid hS'
   clear hS' p0
   go_wp2
   go_meet
   case rel => exact ⟨by rw [hS2.out], rfl⟩
 case rest =>
 obtain ⟨rfl, rfl⟩ := hcut
 go_upto_region 6 with (fail)
 go_cut [29] (fun c wx => c = .bool (p == 0) ∧ w2 = wx)
 case first =>
  go_wp2
  go_meet
  case rel => exact ⟨rfl, rfl⟩
 case rest =>
 obtain ⟨rfl, rfl⟩ := hcut
 go_upto_if 29 with (fail)
 go_cut [1] (fun c wx => c = .int .i64 r0 ∧ w2 = wx)
 case first =>
  by_cases p0 : p = 0
  ·have t0 : (p == 0) = true := by rw [beq_iff_eq]; exact p0
   have hr := hr0.out
   rw [if_pos p0] at hr
   have hr2 := Lib.hid hr
   rw [t0]
   clear hr t0 p0
   go_wp2
   go_meet
   case rel => exact ⟨by rw [← hr2.out], rfl⟩
  ·have t0 : (p == 0) = false := by rw [beq_eq_false_iff_ne]; exact p0
   have hr := hr0.out
   rw [if_neg p0] at hr
   have hr2 := Lib.hid hr
   rw [t0]
   clear hr t0 p0
   go_wp2
   go_meet
   case rel => exact ⟨by rw [← hr2.out], rfl⟩
 case rest =>
 obtain ⟨rfl, rfl⟩ := hcut
 have k1 := HG1.out
 have k2 := HG2.out
 go_upto_region 10 with (fail)
 clear k1 k2
 go_cut [7, 45] (fun s7 c wx => s7 = .bool S ∧ c = .bool (S && (X0 || X1)) ∧ w2 = wx)
 case first =>
  rcases Bool.eq_false_or_eq_true S with hM | hM
  ·rcases Bool.eq_false_or_eq_true X0 with hX | hX
   ·go_wp2_with fail
    refine (CX.out hM _).mono ?_
    rintro e w' ⟨rfl, rfl⟩
    go_wp2
    go_meet
    case rel => exact ⟨by rw [hM], by rw [hM, hX]; rfl, rfl⟩
   ·go_wp2_with fail
    refine (CX.out hM _).mono ?_
    rintro e w' ⟨rfl, rfl⟩
    go_wp2_with fail
    refine (CY.out hM hX _).mono ?_
    rintro e w' ⟨rfl, rfl⟩
    go_wp2
    go_meet
    case rel => exact ⟨by rw [hM], by rw [hM, hX]; rfl, rfl⟩
  ·go_wp2
   go_meet
   case rel => exact ⟨by rw [hM], by rw [hM]; rfl, rfl⟩
 case rest =>
 obtain ⟨rfl, rfl, rfl⟩ := hcut
 obtain ⟨MX, hMX⟩ : ∃ MX, (S && (X0 || X1)) = MX := ⟨_, rfl⟩
 rw [hMX] at hv1 hv0 ⊢
 clear hMX
 go_upto_if 45 with (fail)
 go_cut [1, 5] (fun r c wx => r = .int .i64 R ∧ c = .string v ∧ w2 = wx)
 case first =>
  cases MX
  ·obtain ⟨a1, a2⟩ := hv0.out rfl
   have A1 := Lib.hid a1
   have A2 := Lib.hid a2
   clear a1 a2
   go_wp2
   go_meet
   case rel => exact ⟨by rw [A2.out], by rw [A1.out], rfl⟩
  ·obtain ⟨a1, a2, a3⟩ := hv1.out rfl
   have A3 := Lib.hid a3
   have a5 : (2 : Int) ≤ (u.size : Int) := by omega
   clear a1 a3
   go_wp2
   go_meet
   case rel => exact ⟨by rw [A3.out]; rfl, rfl, rfl⟩
 case rest =>
 obtain ⟨rfl, rfl, rfl⟩ := hcut
 go_wp2
 go_loopw [8] (fun i wr => ∃ k : Nat, i = .int .i64 k ∧ k ≤ J ∧ w2 = wr) (fun i _ => J - (intOf i).toNat)
 case atStart => exact ⟨0, rfl, Nat.zero_le _, rfl⟩
 case round =>
  obtain ⟨k, rfl, hk, rfl⟩ := hrel
  by_cases hlt : k < J
  ·have hks : k < v.size := by have := HJ.out; omega
   have hdk := HD.out k hlt
   have C1 := Lib.hid (fun W => show Cp 90 #[.int .u8 ((v[k]'hks).toNat : Nat)] W fun e w' => e = .returned (.int .i64 (dgt (btn v k) : Nat)) ∧ W = w' from by
    rw [btn_eq v k hks, ← dgz_eq (r := R) HR.out hdk]; exact rdigit_any _ W (btn_lt v k))
   obtain ⟨d, hde⟩ : ∃ d, dgt (btn v k) = d := ⟨_, rfl⟩
   rw [hde] at C1 hdk
   have b1 : decide (d < R) = true := decide_eq_true hdk
   have b2 : (k : Int) < (v.size : Int) := by omega
   have b3 : (0 : Int) ≤ (k : Int) := by omega
   clear hde hdk
   go_wp2_with fail
   refine (C1.out _).mono ?_
   rintro e w' ⟨rfl, rfl⟩
   go_wp2
   exact ⟨⟨k + 1, by go_num, by omega, trivial⟩, by simp [intOf]; omega⟩
  ·obtain rfl : k = J := by omega
   have b3 : (0 : Int) ≤ (k : Int) := by omega
   have b4 : (k : Int) ≤ (v.size : Int) := by have := HJ.out; omega
   have b5 : ((k : Int) == 0) = true := by have := J0.out; first | (rw [beq_iff_eq]; omega) | (rw [beq_eq_false_iff_ne]; omega)
   clear hlt
   by_cases hks : k < v.size
   ·have hdk : ¬ dgz (btn v k) < R := fun h => HE.out hks ((dgz_lt HR.out).1 h)
    have C1 := Lib.hid (fun W => show Cp 90 #[.int .u8 ((v[k]'hks).toNat : Nat)] W fun e w' => e = .returned (.int .i64 (dgz (btn v k) : Nat)) ∧ W = w' from by
     rw [btn_eq v k hks]; exact rdigit_any _ W (btn_lt v k))
    obtain ⟨d, hde⟩ : ∃ d, dgz (btn v k) = d := ⟨_, rfl⟩
    rw [hde] at C1 hdk
    have b1 : decide (d < R) = false := decide_eq_false hdk
    have b2 : (k : Int) < (v.size : Int) := by omega
    clear hde hdk
    go_wp2_with fail
    refine (C1.out _).mono ?_
    rintro e w' ⟨rfl, rfl⟩
    go_wp2_with fail
    refine (CN.out _).mono ?_
    rintro e w' ⟨rfl, rfl⟩
    go_wp2
    go_ret
    exact ⟨rfl, B2.out⟩
   ·have b2 : decide (k < v.size) = false := decide_eq_false hks
    go_wp2_with fail
    refine (CN.out _).mono ?_
    rintro e w' ⟨rfl, rfl⟩
    go_wp2
    go_ret
    exact ⟨rfl, B2.out⟩
set_option maxRecDepth 100000 in
set_option maxHeartbeats 4000000 in
theorem yint_some {s b u : ByteArray} {Q : ByteArray → Prop} {p r0 : Int} {M P S : Bool} {w : World} {v : ByteArray} {R J : Nat} {X0 X1 : Bool} {F G : Nat}
  (CA : Hid (∀ W, Cp 82 #[.string s] W fun e w' => (∃ t, e = .returned (.string t) ∧ Q t) ∧ Below W.heap.size W w'))
  (CB : Hid (∀ t, Q t → ∀ W, Ct 70 #[.string t] (.string b) W))
  (CM : Hid (∀ W, Cq 83 #[.string b, .string ⟨#[45]⟩] (.bool M) W))
  (CP : Hid (M = false → ∀ W, Cq 83 #[.string b, .string ⟨#[43]⟩] (.bool P) W))
  (hu1 : Hid ((M || P) = true → 1 ≤ b.size ∧ b.extract 1 b.size = u)) (hu0 : Hid ((M || P) = false → b = u))
  (hS : Hid ((p == 0 || p == 16) = S)) (hr0 : Hid ((if p = 0 then 10 else p) = r0))
  (g1 : ¬ r0 < 2) (g2 : ¬ 36 < r0)
  (CX : Hid (S = true → ∀ W, Cq 83 #[.string u, .string ⟨#[48, 120]⟩] (.bool X0) W))
  (CY : Hid (S = true → X0 = false → ∀ W, Cq 83 #[.string u, .string ⟨#[48, 88]⟩] (.bool X1) W))
  (hv1 : Hid ((S && (X0 || X1)) = true → 2 ≤ u.size ∧ u.extract 2 u.size = v ∧ R = 16)) (hv0 : Hid ((S && (X0 || X1)) = false → u = v ∧ (R : Int) = r0))
  (hz : v.size ≤ 281474976710656) (hj : J ≤ v.size) (hd : ∀ i, i < J → dgt (btn v i) < R) (he : J < v.size → ¬ dgt (btn v J) < R) (hR : R ≤ 36) (j0 : 0 < J)
  (CW : Hid (∀ W, Ct 91 #[.string (v.extract 0 J), .int .i64 R] (.float .f64 F) W)) (hG : Hid ((if M = true then negW F else F) = G)) :
  Ct 33 #[.string s, .int .i64 p] (.float .f64 G) w := by
 have a4 : (v.size : Int) ≤ 281474976710656 := by omega
 have HJ := Lib.hid hj
 have HD := Lib.hid hd
 have HE := Lib.hid he
 have J0 := Lib.hid j0
 have HR := Lib.hid hR
 have HG1 := Lib.hid g1
 have HG2 := Lib.hid g2
 clear hz hj hd he j0 hR g1 g2
 have CN := Lib.hid (fun W => ynan_any W)
 go_enter Tryz.func33, Tryz.ntmps33
 go_wp2_with fail
 refine (CA.out _).mono ?_
 rintro e w1 ⟨⟨t, rfl, ht⟩, b1⟩
 have B1 := Lib.hid b1
 clear b1
 have CB := Lib.hid (CB.out t ht)
 clear ht
 go_wp2_with fail
 refine (CB.out _).mono ?_
 rintro e w2 ⟨rfl, b2⟩
 have B2 := Lib.hid (below_le B1.out b2)
 clear b2
 go_wp2_with fail
 refine (CM.out _).mono ?_
 rintro e w' ⟨rfl, rfl⟩
 go_upto_region 3 with (fail)
 go_cut [6, 19] (fun m c wx => m = .bool M ∧ c = .bool (M || P) ∧ w2 = wx)
 case first =>
  rcases Bool.eq_false_or_eq_true M with hM | hM
  ·go_wp2
   go_meet
   case rel => exact ⟨by rw [hM], by rw [hM, Bool.true_or], rfl⟩
  ·go_wp2_with fail
   refine (CP.out hM _).mono ?_
   rintro e w' ⟨rfl, rfl⟩
   go_wp2
   go_meet
   case rel => exact ⟨by rw [hM], by rw [hM, Bool.false_or], rfl⟩
 case rest =>
 obtain ⟨rfl, rfl, rfl⟩ := hcut
 obtain ⟨MP, hMP⟩ : ∃ MP, (M || P) = MP := ⟨_, rfl⟩
 rw [hMP] at hu1 hu0 ⊢
 clear hMP
 go_upto_if 19 with (fail)
 go_cut [5] (fun c wx => c = .string u ∧ w2 = wx)
 case first =>
  cases MP
  ·have a1 := Lib.hid (hu0.out rfl)
   go_wp2
   go_meet
   case rel => exact ⟨by rw [a1.out], rfl⟩
  ·obtain ⟨a1, a2⟩ := hu1.out rfl
   have a3 : (1 : Int) ≤ (b.size : Int) := by omega
   go_wp2
   go_meet
   case rel => exact ⟨rfl, rfl⟩
 case rest =>
 obtain ⟨rfl, rfl⟩ := hcut
 go_upto_region 5 with (fail)
 go_cut [7] (fun c wx => c = .bool S ∧ w2 = wx)
 case first =>
  have hS' := hS.out
  clear hr0
  by_cases p0 : p = 0
  ·subst p0
   have hS2 := Lib.hid hS'
   clear hS'
   go_wp2
   go_meet
   case rel => exact ⟨by rw [← hS2.out]; rfl, rfl⟩
  ·have t0 : (p == 0) = false := by rw [beq_eq_false_iff_ne]; exact p0
   rw [t0, Bool.false_or] at hS'
   have hS2 := Lib.hid hS'
   clear hS' p0
   go_wp2
   go_meet
   case rel => exact ⟨by rw [hS2.out], rfl⟩
 case rest =>
 obtain ⟨rfl, rfl⟩ := hcut
 go_upto_region 6 with (fail)
 go_cut [29] (fun c wx => c = .bool (p == 0) ∧ w2 = wx)
 case first =>
  go_wp2
  go_meet
  case rel => exact ⟨rfl, rfl⟩
 case rest =>
 obtain ⟨rfl, rfl⟩ := hcut
 go_upto_if 29 with (fail)
 go_cut [1] (fun c wx => c = .int .i64 r0 ∧ w2 = wx)
 case first =>
  by_cases p0 : p = 0
  ·have t0 : (p == 0) = true := by rw [beq_iff_eq]; exact p0
   have hr := hr0.out
   rw [if_pos p0] at hr
   have hr2 := Lib.hid hr
   rw [t0]
   clear hr t0 p0
   go_wp2
   go_meet
   case rel => exact ⟨by rw [← hr2.out], rfl⟩
  ·have t0 : (p == 0) = false := by rw [beq_eq_false_iff_ne]; exact p0
   have hr := hr0.out
   rw [if_neg p0] at hr
   have hr2 := Lib.hid hr
   rw [t0]
   clear hr t0 p0
   go_wp2
   go_meet
   case rel => exact ⟨by rw [← hr2.out], rfl⟩
 case rest =>
 obtain ⟨rfl, rfl⟩ := hcut
 have k1 := HG1.out
 have k2 := HG2.out
 go_upto_region 10 with (fail)
 clear k1 k2
 go_cut [7, 45] (fun s7 c wx => s7 = .bool S ∧ c = .bool (S && (X0 || X1)) ∧ w2 = wx)
 case first =>
  rcases Bool.eq_false_or_eq_true S with hM | hM
  ·rcases Bool.eq_false_or_eq_true X0 with hX | hX
   ·go_wp2_with fail
    refine (CX.out hM _).mono ?_
    rintro e w' ⟨rfl, rfl⟩
    go_wp2
    go_meet
    case rel => exact ⟨by rw [hM], by rw [hM, hX]; rfl, rfl⟩
   ·go_wp2_with fail
    refine (CX.out hM _).mono ?_
    rintro e w' ⟨rfl, rfl⟩
    go_wp2_with fail
    refine (CY.out hM hX _).mono ?_
    rintro e w' ⟨rfl, rfl⟩
    go_wp2
    go_meet
    case rel => exact ⟨by rw [hM], by rw [hM, hX]; rfl, rfl⟩
  ·go_wp2
   go_meet
   case rel => exact ⟨by rw [hM], by rw [hM]; rfl, rfl⟩
 case rest =>
 obtain ⟨rfl, rfl, rfl⟩ := hcut
 obtain ⟨MX, hMX⟩ : ∃ MX, (S && (X0 || X1)) = MX := ⟨_, rfl⟩
 rw [hMX] at hv1 hv0 ⊢
 clear hMX
 go_upto_if 45 with (fail)
 go_cut [1, 5] (fun r c wx => r = .int .i64 R ∧ c = .string v ∧ w2 = wx)
 case first =>
  cases MX
  ·obtain ⟨a1, a2⟩ := hv0.out rfl
   have A1 := Lib.hid a1
   have A2 := Lib.hid a2
   clear a1 a2
   go_wp2
   go_meet
   case rel => exact ⟨by rw [A2.out], by rw [A1.out], rfl⟩
  ·obtain ⟨a1, a2, a3⟩ := hv1.out rfl
   have A3 := Lib.hid a3
   have a5 : (2 : Int) ≤ (u.size : Int) := by omega
   clear a1 a3
   go_wp2
   go_meet
   case rel => exact ⟨by rw [A3.out]; rfl, rfl, rfl⟩
 case rest =>
 obtain ⟨rfl, rfl, rfl⟩ := hcut
 go_wp2
 go_loopw [8] (fun i wr => ∃ k : Nat, i = .int .i64 k ∧ k ≤ J ∧ w2 = wr) (fun i _ => J - (intOf i).toNat)
 case atStart => exact ⟨0, rfl, Nat.zero_le _, rfl⟩
 case round =>
  obtain ⟨k, rfl, hk, rfl⟩ := hrel
  by_cases hlt : k < J
  ·have hks : k < v.size := by have := HJ.out; omega
   have hdk := HD.out k hlt
   have C1 := Lib.hid (fun W => show Cp 90 #[.int .u8 ((v[k]'hks).toNat : Nat)] W fun e w' => e = .returned (.int .i64 (dgt (btn v k) : Nat)) ∧ W = w' from by
    rw [btn_eq v k hks, ← dgz_eq (r := R) HR.out hdk]; exact rdigit_any _ W (btn_lt v k))
   obtain ⟨d, hde⟩ : ∃ d, dgt (btn v k) = d := ⟨_, rfl⟩
   rw [hde] at C1 hdk
   have b1 : decide (d < R) = true := decide_eq_true hdk
   have b2 : (k : Int) < (v.size : Int) := by omega
   have b3 : (0 : Int) ≤ (k : Int) := by omega
   clear hde hdk
   go_wp2_with fail
   refine (C1.out _).mono ?_
   rintro e w' ⟨rfl, rfl⟩
   go_wp2
   exact ⟨⟨k + 1, by go_num, by omega, trivial⟩, by simp [intOf]; omega⟩
  ·obtain rfl : k = J := by omega
   have b3 : (0 : Int) ≤ (k : Int) := by omega
   have b4 : (k : Int) ≤ (v.size : Int) := by have := HJ.out; omega
   have b5 : ((k : Int) == 0) = false := by have := J0.out; first | (rw [beq_iff_eq]; omega) | (rw [beq_eq_false_iff_ne]; omega)
   clear hlt
   by_cases hks : k < v.size
   ·have hdk : ¬ dgz (btn v k) < R := fun h => HE.out hks ((dgz_lt HR.out).1 h)
    have C1 := Lib.hid (fun W => show Cp 90 #[.int .u8 ((v[k]'hks).toNat : Nat)] W fun e w' => e = .returned (.int .i64 (dgz (btn v k) : Nat)) ∧ W = w' from by
     rw [btn_eq v k hks]; exact rdigit_any _ W (btn_lt v k))
    obtain ⟨d, hde⟩ : ∃ d, dgz (btn v k) = d := ⟨_, rfl⟩
    rw [hde] at C1 hdk
    have b1 : decide (d < R) = false := decide_eq_false hdk
    have b2 : (k : Int) < (v.size : Int) := by omega
    clear hde hdk
    go_wp2_with fail
    refine (C1.out _).mono ?_
    rintro e w' ⟨rfl, rfl⟩
    go_wp2_with fail
    refine (CW.out _).mono ?_
    rintro e w4 ⟨rfl, b4'⟩
    have B4 := Lib.hid (below_le B2.out b4')
    clear b4'
    rcases Bool.eq_false_or_eq_true M with hM | hM
    ·have hG' := hG.out
     rw [if_pos hM] at hG'
     have HG := Lib.hid hG'
     clear hG'
     subst hM
     have r3 : ∀ W, (Op.unary UnOp.neg (.float .f64 F)).run Tryz.prog W = .ok (.float .f64 (negW F)) W := fun W => rfl
     go_wp2
     go_ret
     exact ⟨by rw [← HG.out]; rfl, B4.out⟩
    ·have hG' := hG.out
     rw [if_neg (by rw [hM]; simp)] at hG'
     have HG := Lib.hid hG'
     clear hG'
     subst hM
     go_wp2
     go_ret
     exact ⟨by rw [← HG.out]; rfl, B4.out⟩
   ·have b2 : decide (k < v.size) = false := decide_eq_false hks
    go_wp2_with fail
    refine (CW.out _).mono ?_
    rintro e w4 ⟨rfl, b4'⟩
    have B4 := Lib.hid (below_le B2.out b4')
    clear b4'
    rcases Bool.eq_false_or_eq_true M with hM | hM
    ·have hG' := hG.out
     rw [if_pos hM] at hG'
     have HG := Lib.hid hG'
     clear hG'
     subst hM
     have r3 : ∀ W, (Op.unary UnOp.neg (.float .f64 F)).run Tryz.prog W = .ok (.float .f64 (negW F)) W := fun W => rfl
     go_wp2
     go_ret
     exact ⟨by rw [← HG.out]; rfl, B4.out⟩
    ·have hG' := hG.out
     rw [if_neg (by rw [hM]; simp)] at hG'
     have HG := Lib.hid hG'
     clear hG'
     subst hM
     go_wp2
     go_ret
     exact ⟨by rw [← HG.out]; rfl, B4.out⟩

end Go.Proofs.YtfcpkdafkmohkaaGreatDoor
namespace Go.Proofs.YtfcpkdafkmohkaaGreatDoor
open Go.RowKit
theorem sgW_f (r : Nat) : sgW false r = r := rfl
theorem dw_head (q : Nat → Bool) : ∀ (l : List Nat) (a : Nat) (t : List Nat), l.dropWhile q = a :: t → q a = false
 | [], a, t, h => by cases h
 | c :: l, a, t, h => by
  cases hc : q c
  ·rw [List.dropWhile_cons_of_neg (by rw [hc]; simp)] at h
   injection h with h1 _
   rw [← h1]; exact hc
  ·rw [List.dropWhile_cons_of_pos hc] at h
   exact dw_head q l a t h
theorem digits_pack (L : List Nat) (r : Nat) (hL : ∀ c ∈ L, c < 128) : ∃ J, J ≤ (strOf L).size ∧ (∀ i, i < J → dgt (btn (strOf L) i) < r) ∧ (J < (strOf L).size → ¬ dgt (btn (strOf L) J) < r) ∧ (strOf L).extract 0 J = strOf (L.takeWhile (dgq r)) ∧ J = (L.takeWhile (dgq r)).length := by
 have hb := bl_strOf (fun c hc => (by have := hL c hc; omega : c < 256))
 have hz := strOf_size L
 have hcat : L.takeWhile (dgq r) ++ L.dropWhile (dgq r) = L := List.takeWhile_append_dropWhile
 have hlen := congrArg List.length hcat
 rw [List.length_append] at hlen
 have hget : ∀ i, i < (strOf L).size → L[i]? = some (btn (strOf L) i) := fun i hi => by
  have := hx_get (s := strOf L) hi
  rw [hb] at this
  exact this
 refine ⟨_, by omega, fun i hi => ?_, fun h => ?_, ?_, rfl⟩
 ·have h1 := hget i (by omega)
  have h2 : (L.takeWhile (dgq r))[i]? = some (btn (strOf L) i) := by
   rw [← h1]
   conv => rhs; rw [← hcat]
   rw [List.getElem?_append_left hi]
  exact take_dgq r L _ (List.mem_of_getElem? h2)
 ·have h1 := hget _ h
  have h2 : (L.dropWhile (dgq r))[0]? = some (btn (strOf L) (L.takeWhile (dgq r)).length) := by
   rw [← h1]
   conv => rhs; arg 1; rw [← hcat]
   rw [List.getElem?_append_right (Nat.le_refl _), Nat.sub_self]
  cases hd : L.dropWhile (dgq r) with
  | nil => rw [hd] at h2; cases h2
  | cons a t =>
   rw [hd] at h2
   have := dw_head _ L a t hd
   rw [Option.some.inj h2] at this
   exact of_decide_eq_false this
 ·rw [ext_take, hb]
  conv => lhs; arg 1; arg 2; rw [← hcat]
  rw [List.take_left]
theorem intW_val (l : List Nat) (p : Int) (r : Nat) (T : List Nat) (hR : inR (unsg l) p = (r : Nat)) (hT : inT (unsg l) p = T) (h2 : 2 ≤ r) (h36 : r ≤ 36) : intW l p = if T.takeWhile (dgq r) = [] then nanW else sgW (sgnB l) (natV r (T.takeWhile (dgq r))) := by
 unfold intW inF
 rw [hR, hT, if_neg (by omega), Int.toNat_natCast]
theorem hxA_cases {u : List Nat} (h : hxA u = true) : (∃ v, u = 48 :: 120 :: v) ∨ (∃ v, u = 48 :: 88 :: v) := by
 unfold hxA at h
 cases u with
 | nil => simp at h
 | cons a q =>
  cases q with
  | nil => simp at h
  | cons b v =>
   simp only [List.head?_cons, List.tail_cons, Bool.and_eq_true, Bool.or_eq_true, beq_iff_eq, Option.some.injEq] at h
   obtain ⟨rfl, rfl | rfl⟩ := h
   ·exact Or.inl ⟨v, rfl⟩
   ·exact Or.inr ⟨v, rfl⟩
theorem hxA_no {u : List Nat} (h : hxA u = false) : [48, 120].isPrefixOf u = false ∧ [48, 88].isPrefixOf u = false := by
 constructor
 ·rw [Bool.eq_false_iff]
  intro e
  obtain ⟨t, rfl⟩ := List.isPrefixOf_iff_prefix.1 e
  exact absurd h (by simp [hxA])
 ·rw [Bool.eq_false_iff]
  intro e
  obtain ⟨t, rfl⟩ := List.isPrefixOf_iff_prefix.1 e
  exact absurd h (by simp [hxA])
theorem hxA_or (u : List Nat) : ([48, 120].isPrefixOf u || [48, 88].isPrefixOf u) = hxA u := by
 cases h : hxA u
 ·obtain ⟨a1, a2⟩ := hxA_no h
  rw [a1, a2]
  rfl
 ·rcases hxA_cases h with ⟨v, rfl⟩ | ⟨v, rfl⟩
  ·simp [List.isPrefixOf]
  ·simp [List.isPrefixOf]
theorem yInt_any (s : ByteArray) (p : Int) (w : World) (hs : s.size ≤ 140737488355328) :
  Ct 33 #[.string s, .int .i64 p] (.float .f64 (intW (nrw 1 (ahL (us s))) p)) w := by
 have CA := Lib.hid (fun W => yahead_any s W hs)
 obtain ⟨l, hll⟩ : ∃ l, nrw 1 (ahL (us s)) = l := ⟨_, rfl⟩
 have hl : ∀ c ∈ l, c < 128 := by rw [← hll]; exact nrw_lt (by omega) _
 have hln : l.length ≤ 70368744177664 := by
  have h1 : (ahL (us s)).length ≤ (us s).length := (List.dropWhile_sublist _).length_le
  have h2 := ln_le s
  rw [us_length] at h1
  rw [← hll, nrw_len]
  omega
 have CB : Hid (∀ t, (us t = ahL (us s) ∧ t.size ≤ s.size) → ∀ W, Ct 70 #[.string t] (.string (strOf l)) W) := Lib.hid (fun t ht W => by
  have := ybytes_any t W (by omega)
  rw [ht.1, hll] at this
  exact this)
 rw [hll]
 have h256 : ∀ c ∈ l, c < 256 := fun c hc => by have := hl c hc; omega
 have hb := bl_strOf h256
 have hz := strOf_size l
 obtain ⟨U, hU⟩ : ∃ U, unsg l = U := ⟨_, rfl⟩
 have CM : Hid (∀ W, Cq 83 #[.string (strOf l), .string ⟨#[45]⟩] (.bool ([45].isPrefixOf l)) W) := Lib.hid (fun W => by
  have := ybegins_any (strOf l) ⟨#[45]⟩ W
  rw [hb] at this
  exact this)
 have CP : Hid ([45].isPrefixOf l = false → ∀ W, Cq 83 #[.string (strOf l), .string ⟨#[43]⟩] (.bool ([43].isPrefixOf l)) W) := Lib.hid (fun _ W => by
  have := ybegins_any (strOf l) ⟨#[43]⟩ W
  rw [hb] at this
  exact this)
 have key : (([45].isPrefixOf l || [43].isPrefixOf l) = true → ∃ c, l = c :: U) ∧ (([45].isPrefixOf l || [43].isPrefixOf l) = false → l = U) ∧ [45].isPrefixOf l = sgnB l := by
  rcases sg_cases l with ⟨q, rfl⟩ | ⟨q, rfl⟩ | ⟨hu, hsg, hm, hp⟩
  ·have : unsg (45 :: q) = q := rfl
   rw [this] at hU
   subst hU
   exact ⟨fun _ => ⟨45, rfl⟩, fun h => by simp [List.isPrefixOf] at h, by simp [List.isPrefixOf, sgnB]⟩
  ·have : unsg (43 :: q) = q := rfl
   rw [this] at hU
   subst hU
   exact ⟨fun _ => ⟨43, rfl⟩, fun h => by simp [List.isPrefixOf] at h, by simp [List.isPrefixOf, sgnB]⟩
  ·rw [hu] at hU
   subst hU
   rw [hm, hp, hsg]
   exact ⟨(fun h => by cases h), fun _ => rfl, rfl⟩
 have hu1 : Hid (([45].isPrefixOf l || [43].isPrefixOf l) = true → 1 ≤ (strOf l).size ∧ (strOf l).extract 1 (strOf l).size = strOf U) := Lib.hid (fun h => by
  obtain ⟨c, hc⟩ := key.1 h
  rw [ext_drop, hb, hz, hc]
  exact ⟨by simp, rfl⟩)
 have hu0 : Hid (([45].isPrefixOf l || [43].isPrefixOf l) = false → strOf l = strOf U) := Lib.hid (fun h => by rw [← key.2.1 h])
 have hUl : ∀ d ∈ U, d < 128 := by
  intro d hd
  cases h : ([45].isPrefixOf l || [43].isPrefixOf l)
  ·exact hl d (by rw [key.2.1 h]; exact hd)
  ·obtain ⟨c, hc⟩ := key.1 h
   exact hl d (by rw [hc]; exact List.mem_cons_of_mem _ hd)
 have hUn : U.length ≤ 70368744177664 := by
  cases h : ([45].isPrefixOf l || [43].isPrefixOf l)
  ·rw [← key.2.1 h]; exact hln
  ·obtain ⟨c, hc⟩ := key.1 h
   rw [hc, List.length_cons] at hln
   omega
 have hUb := bl_strOf (fun c hc => (by have := hUl c hc; omega : c < 256))
 have zU := strOf_size U
 obtain ⟨S, hS⟩ : ∃ S, (p == 0 || p == 16) = S := ⟨_, rfl⟩
 obtain ⟨r0, hr0⟩ : ∃ r0 : Int, (if p = 0 then 10 else p) = r0 := ⟨_, rfl⟩
 have hxS' : hxS U p = (S && hxA U) := by unfold hxS; rw [hS]
 have hSp : S = true → p = 0 ∨ p = 16 := by
  intro h
  rw [h, Bool.or_eq_true, beq_iff_eq, beq_iff_eq] at hS
  exact hS
 have hRU : inR U p = if (S && hxA U) = true then 16 else r0 := by
  unfold inR
  rw [hxS', hr0]
 by_cases hbad : r0 < 2 ∨ 36 < r0
 ·have h1 : (S && hxA U) = false := by
   rw [Bool.and_eq_false_iff]
   left
   rw [Bool.eq_false_iff]
   intro h
   rcases hSp h with h | h
   ·rw [if_pos h] at hr0; omega
   ·rw [if_neg (by omega)] at hr0; omega
  have hRU' : inR U p = r0 := by
   rw [hRU, h1]
   rfl
  have h2 : intW l p = nanW := by
   unfold intW
   rw [hU, hRU', if_pos hbad]
  rw [h2]
  exact yint_bad CA CB CM CP hu1 hu0 (Lib.hid hS) (Lib.hid hr0) hbad
 ·have CX : Hid (S = true → ∀ W, Cq 83 #[.string (strOf U), .string ⟨#[48, 120]⟩] (.bool ([48, 120].isPrefixOf U)) W) := Lib.hid (fun _ W => by
   have := ybegins_any (strOf U) ⟨#[48, 120]⟩ W
   rw [hUb] at this
   exact this)
  have CY : Hid (S = true → [48, 120].isPrefixOf U = false → ∀ W, Cq 83 #[.string (strOf U), .string ⟨#[48, 88]⟩] (.bool ([48, 88].isPrefixOf U)) W) := Lib.hid (fun _ _ W => by
   have := ybegins_any (strOf U) ⟨#[48, 88]⟩ W
   rw [hUb] at this
   exact this)
  obtain ⟨V, hV⟩ : ∃ V, inT U p = V := ⟨_, rfl⟩
  have hVe : V = if (S && hxA U) = true then U.drop 2 else U := by
   rw [← hV]
   unfold inT
   rw [hxS']
  have hVl : ∀ d ∈ V, d < 128 := by
   intro d hd
   rw [hVe] at hd
   split at hd
   ·exact hUl d (List.mem_of_mem_drop hd)
   ·exact hUl d hd
  have hVn : V.length ≤ 70368744177664 := by
   rw [hVe]
   split
   ·rw [List.length_drop]; omega
   ·exact hUn
  have zV := strOf_size V
  obtain ⟨R, hR⟩ : ∃ R : Nat, inR U p = (R : Int) := by
   refine ⟨(inR U p).toNat, ?_⟩
   rw [hRU]
   split <;> omega
  have hR2 : 2 ≤ R ∧ R ≤ 36 := by
   rw [hRU] at hR
   split at hR <;> omega
  obtain ⟨J, j1, j2, j3, j4, j5⟩ := digits_pack V R hVl
  have hval := intW_val l p R V (by rw [hU]; exact hR) (by rw [hU]; exact hV) hR2.1 hR2.2
  have hv1 : Hid ((S && ([48, 120].isPrefixOf U || [48, 88].isPrefixOf U)) = true → 2 ≤ (strOf U).size ∧ (strOf U).extract 2 (strOf U).size = strOf V ∧ R = 16) := Lib.hid (fun h => by
   rw [hxA_or] at h
   refine ⟨?_, ?_, ?_⟩
   ·rw [zU]
    have hA := (Bool.and_eq_true _ _ ▸ h).2
    rcases hxA_cases hA with ⟨q, hq⟩ | ⟨q, hq⟩ <;> rw [hq] <;> simp
   ·rw [ext_drop, hUb, hVe, if_pos h]
   ·rw [hRU, if_pos h] at hR
    omega)
  have hv0 : Hid ((S && ([48, 120].isPrefixOf U || [48, 88].isPrefixOf U)) = false → strOf U = strOf V ∧ (R : Int) = r0) := Lib.hid (fun h => by
   rw [hxA_or] at h
   refine ⟨by rw [hVe, if_neg (by rw [h]; simp)], ?_⟩
   rw [hRU, if_neg (by rw [h]; simp)] at hR
   exact hR.symm)
  rw [hval]
  by_cases h0 : J = 0
  ·rw [if_pos (List.length_eq_zero_iff.1 (by omega))]
   exact yint_none CA CB CM CP hu1 hu0 (Lib.hid hS) (Lib.hid hr0) (by omega) (by omega) CX CY hv1 hv0 (by omega) j1 j2 j3 hR2.2 h0
  ·rw [if_neg (fun e => h0 (by rw [j5, e]; rfl))]
   have hsub : (V.takeWhile (dgq R)).length ≤ V.length := (List.takeWhile_sublist _).length_le
   refine yint_some (F := natV R (V.takeWhile (dgq R))) CA CB CM CP hu1 hu0 (Lib.hid hS) (Lib.hid hr0) (by omega) (by omega) CX CY hv1 hv0 (by omega) j1 j2 j3 hR2.2 (by omega) (Lib.hid fun W => by
    rw [j4]
    exact ynatural_any _ R W hR2.1 hR2.2 (take_dgq R V) (fun c hc => by have := hVl c ((List.takeWhile_sublist _).subset hc); omega) (by omega)) (Lib.hid ?_)
   rw [key.2.2]
   cases sgnB l
   ·rw [if_neg (by simp), sgW_f]
   ·rw [if_pos rfl, negW_eq (fin_nat _ _)]

end Go.Proofs.YtfcpkdafkmohkaaGreatDoor
namespace Go.Proofs.YtfcpkdafkmohkaaGreatDoor
open Go.RowKit
theorem big_tenth : ∃ X : Nat, 0 < X ∧ big = 72057594037927936 * X ∧ fmag 4591870180066957722 = 7205759403792794 * X ∧ fmag 4591870180066957721 = 7205759403792793 * X ∧ fmag 4591870180066957723 = 7205759403792795 * X := by
 obtain ⟨K, hK, hb⟩ := big_K
 obtain ⟨J, hJ⟩ : ∃ J : Nat, J = 1018 := ⟨_, rfl⟩
 have h1 := fmag_make 7205759403792794 J (by omega) (by omega)
 have h2 := fmag_make 7205759403792793 J (by omega) (by omega)
 have h3 := fmag_make 7205759403792795 J (by omega) (by omega)
 rw [show J * 4503599627370496 + 7205759403792794 = 4591870180066957722 by omega] at h1
 rw [show J * 4503599627370496 + 7205759403792793 = 4591870180066957721 by omega] at h2
 rw [show J * 4503599627370496 + 7205759403792795 = 4591870180066957723 by omega] at h3
 refine ⟨2 ^ J, two_pos J, ?_, h1, h2, h3⟩
 rw [hb, show K = 56 + J by omega, Nat.pow_add]
theorem decR_tenth : decR 1 (-1) = 4591870180066957722 := by
 obtain ⟨X, hX, hb, h1, h2, h3⟩ := big_tenth
 rw [decR_big]
 unfold vV
 rw [show (-(-(-1 : Int))).toNat = 0 by omega, show (-(-1 : Int)).toNat = 1 by omega, Nat.pow_zero, Nat.pow_one, Nat.mul_one, Nat.one_mul, rnd_iff (by omega) (by omega) (by omega), h1, show 4591870180066957722 - 1 = 4591870180066957721 by omega, h2, show 4591870180066957722 + 1 = 4591870180066957723 by omega, h3, hb]
 exact ⟨.inl (by omega), .inl (by omega)⟩
theorem sq_tenth : SQ 4591870180066957722 [49] 0 := by
 obtain ⟨X, hX, hb, h1, _, _⟩ := big_tenth
 have e1 : dL 1 = [49] := dL_small (by omega)
 have hU : vU 4591870180066957722 (((1 : Nat) : Int) - 0) = 72057594037927940 * X := by
  unfold vU
  rw [h1, show (((1 : Nat) : Int) - 0).toNat = 1 by omega, Nat.pow_one]
  omega
 have hV : vV (((1 : Nat) : Int) - 0) = 72057594037927936 * X := by
  unfold vV
  rw [hb, show (-(((1 : Nat) : Int) - 0)).toNat = 0 by omega, Nat.pow_zero, Nat.mul_one]
 have hq : cq 4591870180066957722 0 1 = 1 := by
  unfold cq
  rw [hU, hV, Nat.mul_div_mul_right _ _ hX]
 have hm : vU 4591870180066957722 (((1 : Nat) : Int) - 0) % vV (((1 : Nat) : Int) - 0) = 4 * X := by
  rw [hU, hV, Nat.mul_mod_mul_right]
 have hl : clow 4591870180066957722 0 1 = true := by
  unfold clow
  rw [hq]
  exact decide_eq_true decR_tenth
 have hn : cnear 4591870180066957722 0 1 = true := by
  unfold cnear
  rw [hm, hV, decide_eq_true (by omega), Bool.true_or]
 refine ⟨0, 1, 1, ⟨?_, ?_⟩, by omega, by omega, by omega, ?_, by rw [e1]; rfl, by rw [e1]; rfl⟩
 ·unfold le10
  rw [h1, hb, show ((0 : Int) - 1).toNat = 0 by omega, show (-((0 : Int) - 1)).toNat = 1 by omega, Nat.pow_zero, Nat.pow_one]
  omega
 ·unfold le10
  rw [h1, hb, show (0 : Int).toNat = 0 by omega, show (-(0 : Int)).toNat = 0 by omega, Nat.pow_zero]
  omega
 ·unfold cnd
  rw [hl, hn, hq]
  simp
theorem tx_tenth : TxQ 4591870180066957722 [48, 46, 49] := by
 refine .inr (.inr ⟨by decide, by decide, [48, 46, 49], .inr ⟨by decide, [49], 0, ?_, by decide⟩, by decide⟩)
 have : rung 4591870180066957722 = 4591870180066957722 := by decide
 rw [this]
 exact sq_tenth
theorem num_tenth : numW (nrw 0 (us (trimS (wdS [48, 46, 49])))) = 4591870180066957722 := by
 have h : nrw 0 (us (trimS (wdS [48, 46, 49]))) = [48, 46, 49] := by decide +kernel
 rw [h]
 unfold numW
 rw [if_neg (by decide), if_neg (by decide), if_neg (by decide), if_pos (by decide)]
 have h1 : sgnB [48, 46, 49] = false := by decide
 rw [h1, sgW_f]
 have h2 : unsg [48, 46, 49] = [48, 46, 49] := by decide
 rw [h2]
 unfold dV
 rw [show num 10 (dW [48, 46, 49] ++ dF [48, 46, 49]) = 1 by decide, show dX [48, 46, 49] - ((dF [48, 46, 49]).length : Int) = -1 by decide]
 exact decR_tenth
theorem lsame_any (x y : Nat) (w : World) (b : Bool) (hb : ((x : Int) == (y : Int)) = b) : Cq 27 #[.float .f64 x, .float .f64 y] (.bool b) w := by
 have h1 := f64bits_run x w
 have h2 := f64bits_run y w
 go_enter Tryz.func27, Tryz.ntmps27
 go_wp2
 go_ret
 exact ⟨rfl, rfl⟩
theorem awake_any (w : World) (ht : Tab10 w) (hz : TzTab w) : Ct 16 #[] (.bool true) w := by
 have C1 := Lib.hid (fun W (hW : W = w) => tText_any (x := 4591870180066957722) (L := [48, 46, 49]) (w := W) (by omega) (hW ▸ ht) (hW ▸ hz) tx_tenth)
 have C2 := Lib.hid (fun W => vwide_any [48, 46, 49] W (by simp) (by simp))
 have C3 := Lib.hid (fun W => tNumber_any (wdS [48, 46, 49]) W (by decide +kernel))
 rw [num_tenth] at C3
 have t1 : (FloatKind.f64.format.order 4591870180066957722 4591870180066957722 == some .eq) = true := by rw [ord_eq_pos (by omega) (by omega)]; exact decide_eq_true rfl
 obtain ⟨S, hS⟩ : ∃ S, wdS [48, 46, 49] = S := ⟨_, rfl⟩
 rw [hS] at C1 C2 C3
 rw [show strOf [48, 46, 49] = ⟨#[48, 46, 49]⟩ from rfl] at C2
 clear ht hz hS
 go_enter Tryz.func16, Tryz.ntmps16
 go_wp2_with fail
 refine (C1.out _ rfl).mono ?_
 rintro e w1 ⟨rfl, b1⟩
 have B1 := Lib.hid b1
 clear b1
 go_wp2_with fail
 refine (C2.out _).mono ?_
 rintro e w2 ⟨rfl, b2⟩
 have B2 := Lib.hid (below_le B1.out b2)
 clear b2
 go_wp2_with fail
 refine (C2.out _).mono ?_
 rintro e w3 ⟨rfl, b3⟩
 have B3 := Lib.hid (below_le B2.out b3)
 clear b3
 go_wp2_with fail
 refine (C3.out _).mono ?_
 rintro e w4 ⟨rfl, b4⟩
 have B4 := Lib.hid (below_le B3.out b4)
 clear b4
 go_wp2
 go_ret
 exact ⟨rfl, B4.out⟩
theorem beginnings_any (s : ByteArray) (p : Int) (w : World) (hs : s.size ≤ 140737488355328) (ht : Tab10 w) (hz : TzTab w) :
  Ct 8 #[.string s, .int .i64 p] (.bool true) w := by
 obtain ⟨x, hx⟩ : ∃ x, fltW (nrw 0 (ahL (us s))) = x := ⟨_, rfl⟩
 obtain ⟨y, hy⟩ : ∃ y, intW (nrw 0 (ahL (us s))) p = y := ⟨_, rfl⟩
 have C1 := Lib.hid (fun W => tFloat_any s W hs)
 have C2 := Lib.hid (fun W => yFloat_any s W hs)
 have C3 := Lib.hid (fun W => tInt_any s p W hs)
 have C4 := Lib.hid (fun W => yInt_any s p W hs)
 rw [hx] at C1
 rw [fltW_z, hx] at C2
 rw [hy] at C3
 rw [intW_z, hy] at C4
 have C5 := Lib.hid (fun z W => lsame_any z z W true (by simp))
 have C6 := Lib.hid (fun W (h : Below w.heap.size w W) => awake_any W (ht.on h) (tz_on hz h))
 clear hs ht hz hx hy
 go_enter Tryz.func8, Tryz.ntmps8
 go_wp2_with fail
 refine (C1.out _).mono ?_
 rintro e w1 ⟨rfl, b1⟩
 have B1 := Lib.hid b1
 clear b1
 go_wp2_with fail
 refine (C2.out _).mono ?_
 rintro e w2 ⟨rfl, b2⟩
 have B2 := Lib.hid (below_le B1.out b2)
 clear b2
 go_wp2_with fail
 refine (C5.out _ _).mono ?_
 rintro e w' ⟨rfl, rfl⟩
 go_wp2_with fail
 refine (C3.out _).mono ?_
 rintro e w3 ⟨rfl, b3⟩
 have B3 := Lib.hid (below_le B2.out b3)
 clear b3
 go_wp2_with fail
 refine (C4.out _).mono ?_
 rintro e w4 ⟨rfl, b4⟩
 have B4 := Lib.hid (below_le B3.out b4)
 clear b4
 go_wp2_with fail
 refine (C5.out _ _).mono ?_
 rintro e w' ⟨rfl, rfl⟩
 go_wp2_with fail
 refine (C6.out _ B4.out).mono ?_
 rintro e w5 ⟨rfl, b5⟩
 have B5 := Lib.hid (below_le B4.out b5)
 clear b5
 go_wp2
 go_ret
 exact ⟨rfl, B5.out⟩

end Go.Proofs.YtfcpkdafkmohkaaGreatDoor
