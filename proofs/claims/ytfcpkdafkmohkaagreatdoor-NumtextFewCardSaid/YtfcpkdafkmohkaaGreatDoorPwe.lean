/-
  Merged texts (Wo, Wp, Wq, Lk, Re, Za, Lo, Lp, Ya, Yb, Yf, Zb, Zc, Zd, Ze, Zf, Zh, Zm).
-/
import Derived.Test.YtfcpkdafkmohkaaGreatDoorPwd
import Derived.Shelf.Strings.SlTrimAscii
import Derived.Shelf.Strings.Builder1
import Derived.Shelf.Strings.Builder2
import Derived.Shelf.Strings.OnBuilder
import Derived.Shelf.Strings.Trim
import Derived.Shelf.Small.Utf8
import Derived.Shelf.Small.Bits
import Derived.Shelf.Small.Strs
import Derived.Shelf.Small.Wraps
import Derived.Shelf.Strings.BuilderF
import Derived.Shelf.Strings.BuilderK
import Derived.Shelf.Strconv.Itoa0
import Derived.Shelf.Strconv.Itoa1
import Derived.Shelf.LaysM
import Derived.Shelf.Strconv.Itoa2
import Derived.Shelf.Strconv.Itoa3
import Derived.Shelf.Strings.Search1
import Derived.Shelf.Strings.Prefix
import Derived.Shelf.Unicode.Latin
import Derived.Shelf.Strings.Runes
import Derived.Shelf.Strings.AsciiSet
import Derived.Shelf.Bits.Mul64
import Derived.Shelf.Strings.Repeat
import Derived.Shelf.Unicode.DecodeSlow
import Derived.Shelf.Unicode.CaseLookup
import Derived.Shelf.Unicode.CaseConvert
import Derived.Shelf.Unicode.CaseTo
import Derived.Shelf.Unicode.CaseLaid
import Derived.Test.YtfcpkdafkmohkaaGreatDoorProg
import GoSem.Core.Utf8
import Derived.WalkKit
import Derived.WalkSpells
import Derived.WalkLawsBesides
import Derived.Deep.QuietTactic
import Derived.BigQuiet
import Derived.Lib.Hide
import Derived.Deep.OwnRows
import Derived.Laws.CopyOwn
import Derived.Deep.AppendLies
import Derived.Lib.BitFns
import Derived.Lib.Strings
import Derived.Laws.BitsAllLaws
import Derived.Lib.LaidTab
import Derived.ProofKit
import Derived.OpenShut
import Derived.SizedLaws
import Derived.Laws.BytesString
import Derived.Laws.Cells
import Derived.Deep.RegionWith
import Derived.BigRegion
import Derived.Test.YtfcpkdafkmohkaaGreatDoorRows
import Derived.Lib.ItoaNum
import Derived.Deep.DeepCutAuto
import Ieee.Arith
import GoSem.Core.Float
import Derived.Laws.FloatArith
import Derived.Laws.Externs
import Derived.Deep.RegionHeld3
import Derived.Laws.Closers25b
import Derived.Lib.SlTrimSet
import Derived.Lib.Case
import Derived.Deep.WholeRow
import Derived.Laws.Tables
import Derived.Laws.EntriesVeiled
import Derived.Lib.AppendIntMem
namespace Go.Proofs.YtfcpkdafkmohkaaGreatDoor
set_option maxRecDepth 100000
open Go.RowKit
set_option maxHeartbeats 1000000 in
theorem tsigned_00nan (x : Nat) (f : FuncId) (F : ByteArray) (w : World) (t0 : (FloatKind.f64.format.order x 0 == some .lt) = false)
  (CN : Hid (∀ W, Cq 34 #[.float .f64 x] (.bool true) W))
  (CW : Hid (∀ W, Ct 41 #[.string ⟨#[78, 97, 78]⟩] (.string F) W)) :
  Ct 43 #[.float .f64 x, .func (Fn.func f) #[] #[]] (.string F) w := by
 go_enter Tryz.func43, Tryz.ntmps43
 go_wp2_with fail
 refine (CN.out _).mono ?_
 rintro e w' ⟨rfl, rfl⟩
 go_wp2_with fail
 refine (CW.out _).mono ?_
 rintro e w2 ⟨rfl, b2⟩
 have B2 := Lib.hid (below_le (Below.refl _ _) b2)
 clear b2
 go_wp2
 go_ret
 exact ⟨rfl, B2.out⟩
set_option maxHeartbeats 1000000 in
theorem tsigned_00inf (x : Nat) (f : FuncId) (F : ByteArray) (w : World) (t0 : (FloatKind.f64.format.order x 0 == some .lt) = false)
  (CN : Hid (∀ W, Cq 34 #[.float .f64 x] (.bool false) W))
  (CI : Hid (∀ W, Cq 36 #[.float .f64 x, .int .i64 0] (.bool true) W))
  (CW : Hid (∀ W, Ct 41 #[.string ⟨#[73, 110, 102, 105, 110, 105, 116, 121]⟩] (.string F) W)) :
  Ct 43 #[.float .f64 x, .func (Fn.func f) #[] #[]] (.string F) w := by
 go_enter Tryz.func43, Tryz.ntmps43
 go_wp2_with fail
 refine (CN.out _).mono ?_
 rintro e w' ⟨rfl, rfl⟩
 go_wp2_with fail
 refine (CI.out _).mono ?_
 rintro e w' ⟨rfl, rfl⟩
 go_wp2_with fail
 refine (CW.out _).mono ?_
 rintro e w2 ⟨rfl, b2⟩
 have B2 := Lib.hid (below_le (Below.refl _ _) b2)
 clear b2
 go_wp2
 go_ret
 exact ⟨rfl, B2.out⟩
set_option maxHeartbeats 1000000 in
theorem tsigned_00fin (x : Nat) (f : FuncId) (R S : ByteArray) (r : Nat) (F : ByteArray) (w : World) (t0 : (FloatKind.f64.format.order x 0 == some .lt) = false)
  (CN : Hid (∀ W, Cq 34 #[.float .f64 x] (.bool false) W))
  (CI : Hid (∀ W, Cq 36 #[.float .f64 x, .int .i64 0] (.bool false) W))
  (CA : Hid (∀ W, Cq 52 #[.float .f64 x] (.float .f64 r) W))
  (he : ∀ args (W : World), (callFunc f args).run Tryz.prog W = .ok (.enter f args) W)
  (CT : Hid (∀ W, W = w → Ct f #[.float .f64 r] (.string R) W))
  (hR : Hid (R.size ≤ 1000000)) (hS : ⟨#[]⟩ ++ R = S)
  (CW : Hid (∀ W, Ct 41 #[.string S] (.string F) W)) :
  Ct 43 #[.float .f64 x, .func (Fn.func f) #[] #[]] (.string F) w := by
 have g1 : ¬ 9223372036854775807 < R.size := by have := hR.out; omega
 go_enter Tryz.func43, Tryz.ntmps43
 go_wp2_with fail
 refine (CN.out _).mono ?_
 rintro e w' ⟨rfl, rfl⟩
 go_wp2_with fail
 refine (CI.out _).mono ?_
 rintro e w' ⟨rfl, rfl⟩
 go_wp2_with fail
 refine (CA.out _).mono ?_
 rintro e w' ⟨rfl, rfl⟩
 go_wp2_with fail
 refine (CT.out _ rfl).mono ?_
 rintro e w1 ⟨rfl, b1⟩
 have B1 := Lib.hid b1
 clear b1
 go_wp2_with fail
 refine (CW.out _).mono ?_
 rintro e w2 ⟨rfl, b2⟩
 have B2 := Lib.hid (below_le B1.out b2)
 clear b2
 go_wp2
 go_ret
 exact ⟨rfl, B2.out⟩
set_option maxHeartbeats 1000000 in
theorem tsigned_01inf (x : Nat) (f : FuncId) (F : ByteArray) (w : World) (t0 : (FloatKind.f64.format.order x 0 == some .lt) = true)
  (CN : Hid (∀ W, Cq 34 #[.float .f64 x] (.bool false) W))
  (CI : Hid (∀ W, Cq 36 #[.float .f64 x, .int .i64 0] (.bool true) W))
  (CW : Hid (∀ W, Ct 41 #[.string ⟨#[45, 73, 110, 102, 105, 110, 105, 116, 121]⟩] (.string F) W)) :
  Ct 43 #[.float .f64 x, .func (Fn.func f) #[] #[]] (.string F) w := by
 go_enter Tryz.func43, Tryz.ntmps43
 go_wp2_with fail
 refine (CN.out _).mono ?_
 rintro e w' ⟨rfl, rfl⟩
 go_wp2_with fail
 refine (CI.out _).mono ?_
 rintro e w' ⟨rfl, rfl⟩
 go_wp2_with fail
 refine (CW.out _).mono ?_
 rintro e w2 ⟨rfl, b2⟩
 have B2 := Lib.hid (below_le (Below.refl _ _) b2)
 clear b2
 go_wp2
 go_ret
 exact ⟨rfl, B2.out⟩
set_option maxHeartbeats 1000000 in
theorem tsigned_01fin (x : Nat) (f : FuncId) (R S : ByteArray) (r : Nat) (F : ByteArray) (w : World) (t0 : (FloatKind.f64.format.order x 0 == some .lt) = true)
  (CN : Hid (∀ W, Cq 34 #[.float .f64 x] (.bool false) W))
  (CI : Hid (∀ W, Cq 36 #[.float .f64 x, .int .i64 0] (.bool false) W))
  (CA : Hid (∀ W, Cq 52 #[.float .f64 x] (.float .f64 r) W))
  (he : ∀ args (W : World), (callFunc f args).run Tryz.prog W = .ok (.enter f args) W)
  (CT : Hid (∀ W, W = w → Ct f #[.float .f64 r] (.string R) W))
  (hR : Hid (R.size ≤ 1000000)) (hS : ⟨#[45]⟩ ++ R = S)
  (CW : Hid (∀ W, Ct 41 #[.string S] (.string F) W)) :
  Ct 43 #[.float .f64 x, .func (Fn.func f) #[] #[]] (.string F) w := by
 have g1 : ¬ 9223372036854775807 < 1 + R.size := by have := hR.out; omega
 go_enter Tryz.func43, Tryz.ntmps43
 go_wp2_with fail
 refine (CN.out _).mono ?_
 rintro e w' ⟨rfl, rfl⟩
 go_wp2_with fail
 refine (CI.out _).mono ?_
 rintro e w' ⟨rfl, rfl⟩
 go_wp2_with fail
 refine (CA.out _).mono ?_
 rintro e w' ⟨rfl, rfl⟩
 go_wp2_with fail
 refine (CT.out _ rfl).mono ?_
 rintro e w1 ⟨rfl, b1⟩
 have B1 := Lib.hid b1
 clear b1
 go_wp2_with fail
 refine (CW.out _).mono ?_
 rintro e w2 ⟨rfl, b2⟩
 have B2 := Lib.hid (below_le B1.out b2)
 clear b2
 go_wp2
 go_ret
 exact ⟨rfl, B2.out⟩
set_option maxHeartbeats 1000000 in
theorem tsigned_10nan (x : Nat) (f : FuncId) (pb : Addr) (F : ByteArray) (w : World) (t0 : (FloatKind.f64.format.order x 0 == some .lt) = false)
  (CN : Hid (∀ W, Cq 34 #[.float .f64 x] (.bool true) W))
  (CW : Hid (∀ W, Ct 41 #[.string ⟨#[78, 97, 78]⟩] (.string F) W)) :
  Ct 43 #[.float .f64 x, .func (Fn.func f) #[] #[.pointer (some pb)]] (.string F) w := by
 go_enter Tryz.func43, Tryz.ntmps43
 go_wp2_with fail
 refine (CN.out _).mono ?_
 rintro e w' ⟨rfl, rfl⟩
 go_wp2_with fail
 refine (CW.out _).mono ?_
 rintro e w2 ⟨rfl, b2⟩
 have B2 := Lib.hid (below_le (Below.refl _ _) b2)
 clear b2
 go_wp2
 go_ret
 exact ⟨rfl, B2.out⟩
set_option maxHeartbeats 1000000 in
theorem tsigned_10inf (x : Nat) (f : FuncId) (pb : Addr) (F : ByteArray) (w : World) (t0 : (FloatKind.f64.format.order x 0 == some .lt) = false)
  (CN : Hid (∀ W, Cq 34 #[.float .f64 x] (.bool false) W))
  (CI : Hid (∀ W, Cq 36 #[.float .f64 x, .int .i64 0] (.bool true) W))
  (CW : Hid (∀ W, Ct 41 #[.string ⟨#[73, 110, 102, 105, 110, 105, 116, 121]⟩] (.string F) W)) :
  Ct 43 #[.float .f64 x, .func (Fn.func f) #[] #[.pointer (some pb)]] (.string F) w := by
 go_enter Tryz.func43, Tryz.ntmps43
 go_wp2_with fail
 refine (CN.out _).mono ?_
 rintro e w' ⟨rfl, rfl⟩
 go_wp2_with fail
 refine (CI.out _).mono ?_
 rintro e w' ⟨rfl, rfl⟩
 go_wp2_with fail
 refine (CW.out _).mono ?_
 rintro e w2 ⟨rfl, b2⟩
 have B2 := Lib.hid (below_le (Below.refl _ _) b2)
 clear b2
 go_wp2
 go_ret
 exact ⟨rfl, B2.out⟩
set_option maxHeartbeats 1000000 in
theorem tsigned_10fin (x : Nat) (f : FuncId) (pb : Addr) (R S : ByteArray) (r : Nat) (F : ByteArray) (w : World) (t0 : (FloatKind.f64.format.order x 0 == some .lt) = false)
  (CN : Hid (∀ W, Cq 34 #[.float .f64 x] (.bool false) W))
  (CI : Hid (∀ W, Cq 36 #[.float .f64 x, .int .i64 0] (.bool false) W))
  (CA : Hid (∀ W, Cq 52 #[.float .f64 x] (.float .f64 r) W))
  (he : ∀ args (W : World), (callFunc f args).run Tryz.prog W = .ok (.enter f args) W)
  (CT : Hid (∀ W, W = w → Ct f #[.float .f64 r, .pointer (some pb)] (.string R) W))
  (hR : Hid (R.size ≤ 1000000)) (hS : ⟨#[]⟩ ++ R = S)
  (CW : Hid (∀ W, Ct 41 #[.string S] (.string F) W)) :
  Ct 43 #[.float .f64 x, .func (Fn.func f) #[] #[.pointer (some pb)]] (.string F) w := by
 have g1 : ¬ 9223372036854775807 < R.size := by have := hR.out; omega
 go_enter Tryz.func43, Tryz.ntmps43
 go_wp2_with fail
 refine (CN.out _).mono ?_
 rintro e w' ⟨rfl, rfl⟩
 go_wp2_with fail
 refine (CI.out _).mono ?_
 rintro e w' ⟨rfl, rfl⟩
 go_wp2_with fail
 refine (CA.out _).mono ?_
 rintro e w' ⟨rfl, rfl⟩
 go_wp2_with fail
 refine (CT.out _ rfl).mono ?_
 rintro e w1 ⟨rfl, b1⟩
 have B1 := Lib.hid b1
 clear b1
 go_wp2_with fail
 refine (CW.out _).mono ?_
 rintro e w2 ⟨rfl, b2⟩
 have B2 := Lib.hid (below_le B1.out b2)
 clear b2
 go_wp2
 go_ret
 exact ⟨rfl, B2.out⟩
set_option maxHeartbeats 1000000 in
theorem tsigned_11inf (x : Nat) (f : FuncId) (pb : Addr) (F : ByteArray) (w : World) (t0 : (FloatKind.f64.format.order x 0 == some .lt) = true)
  (CN : Hid (∀ W, Cq 34 #[.float .f64 x] (.bool false) W))
  (CI : Hid (∀ W, Cq 36 #[.float .f64 x, .int .i64 0] (.bool true) W))
  (CW : Hid (∀ W, Ct 41 #[.string ⟨#[45, 73, 110, 102, 105, 110, 105, 116, 121]⟩] (.string F) W)) :
  Ct 43 #[.float .f64 x, .func (Fn.func f) #[] #[.pointer (some pb)]] (.string F) w := by
 go_enter Tryz.func43, Tryz.ntmps43
 go_wp2_with fail
 refine (CN.out _).mono ?_
 rintro e w' ⟨rfl, rfl⟩
 go_wp2_with fail
 refine (CI.out _).mono ?_
 rintro e w' ⟨rfl, rfl⟩
 go_wp2_with fail
 refine (CW.out _).mono ?_
 rintro e w2 ⟨rfl, b2⟩
 have B2 := Lib.hid (below_le (Below.refl _ _) b2)
 clear b2
 go_wp2
 go_ret
 exact ⟨rfl, B2.out⟩
set_option maxHeartbeats 1000000 in
theorem tsigned_11fin (x : Nat) (f : FuncId) (pb : Addr) (R S : ByteArray) (r : Nat) (F : ByteArray) (w : World) (t0 : (FloatKind.f64.format.order x 0 == some .lt) = true)
  (CN : Hid (∀ W, Cq 34 #[.float .f64 x] (.bool false) W))
  (CI : Hid (∀ W, Cq 36 #[.float .f64 x, .int .i64 0] (.bool false) W))
  (CA : Hid (∀ W, Cq 52 #[.float .f64 x] (.float .f64 r) W))
  (he : ∀ args (W : World), (callFunc f args).run Tryz.prog W = .ok (.enter f args) W)
  (CT : Hid (∀ W, W = w → Ct f #[.float .f64 r, .pointer (some pb)] (.string R) W))
  (hR : Hid (R.size ≤ 1000000)) (hS : ⟨#[45]⟩ ++ R = S)
  (CW : Hid (∀ W, Ct 41 #[.string S] (.string F) W)) :
  Ct 43 #[.float .f64 x, .func (Fn.func f) #[] #[.pointer (some pb)]] (.string F) w := by
 have g1 : ¬ 9223372036854775807 < 1 + R.size := by have := hR.out; omega
 go_enter Tryz.func43, Tryz.ntmps43
 go_wp2_with fail
 refine (CN.out _).mono ?_
 rintro e w' ⟨rfl, rfl⟩
 go_wp2_with fail
 refine (CI.out _).mono ?_
 rintro e w' ⟨rfl, rfl⟩
 go_wp2_with fail
 refine (CA.out _).mono ?_
 rintro e w' ⟨rfl, rfl⟩
 go_wp2_with fail
 refine (CT.out _ rfl).mono ?_
 rintro e w1 ⟨rfl, b1⟩
 have B1 := Lib.hid b1
 clear b1
 go_wp2_with fail
 refine (CW.out _).mono ?_
 rintro e w2 ⟨rfl, b2⟩
 have B2 := Lib.hid (below_le B1.out b2)
 clear b2
 go_wp2
 go_ret
 exact ⟨rfl, B2.out⟩

end Go.Proofs.YtfcpkdafkmohkaaGreatDoor
namespace Go.Proofs.YtfcpkdafkmohkaaGreatDoor
open Go.RowKit
set_option maxRecDepth 100000 in
theorem tplain_zero (x : Nat) (w : World) (t0 : (FloatKind.f64.format.order x 0 == some .eq) = true) : Cq 44 #[.float .f64 x] (.string ⟨#[48]⟩) w := by
 go_enter Tryz.func44, Tryz.ntmps44
 go_wp2
 go_ret
 exact ⟨rfl, rfl⟩
set_option maxRecDepth 100000 in
set_option maxHeartbeats 1000000 in
theorem tplain_low (x : Nat) (N : Int) (S F : ByteArray) (w : World) (t0 : (FloatKind.f64.format.order x 0 == some .eq) = false) (b1 : -1000 ≤ N) (b2 : N ≤ 1000) (h1 : N ≤ -6)
  (CS : Hid (∀ W, Below w.heap.size w W → Ct 59 #[.string S, .int .i64 (N - 1)] (.string F) W))
  (C : Hid (∀ W, W = w → Ct 40 #[.float .f64 x] (.tuple #[.string S, .int .i64 N]) W)) :
  Ct 44 #[.float .f64 x] (.string F) w := by
 go_enter Tryz.func44, Tryz.ntmps44
 go_wp2_with fail
 refine (C.out _ rfl).mono ?_
 rintro e w1 ⟨rfl, b1'⟩
 have B1 := Lib.hid b1'
 clear b1'
 go_wp2_with fail
 refine (CS.out _ B1.out).mono ?_
 rintro e w2 ⟨rfl, b2'⟩
 have B2 := Lib.hid (below_le B1.out b2')
 clear b2'
 go_wp2
 go_ret
 exact ⟨rfl, B2.out⟩
set_option maxRecDepth 100000 in
set_option maxHeartbeats 1000000 in
theorem tplain_high (x : Nat) (N : Int) (S F : ByteArray) (w : World) (t0 : (FloatKind.f64.format.order x 0 == some .eq) = false) (b1 : -1000 ≤ N) (b2 : N ≤ 1000) (h1 : 21 < N)
  (CS : Hid (∀ W, Below w.heap.size w W → Ct 59 #[.string S, .int .i64 (N - 1)] (.string F) W))
  (C : Hid (∀ W, W = w → Ct 40 #[.float .f64 x] (.tuple #[.string S, .int .i64 N]) W)) :
  Ct 44 #[.float .f64 x] (.string F) w := by
 have h2 : ¬ N ≤ -6 := by omega
 go_enter Tryz.func44, Tryz.ntmps44
 go_wp2_with fail
 refine (C.out _ rfl).mono ?_
 rintro e w1 ⟨rfl, b1'⟩
 have B1 := Lib.hid b1'
 clear b1'
 go_wp2_with fail
 refine (CS.out _ B1.out).mono ?_
 rintro e w2 ⟨rfl, b2'⟩
 have B2 := Lib.hid (below_le B1.out b2')
 clear b2'
 go_wp2
 go_ret
 exact ⟨rfl, B2.out⟩
set_option maxRecDepth 100000 in
set_option maxHeartbeats 1000000 in
theorem tplain_whole (x : Nat) (N : Int) (n z : Nat) (S F : ByteArray) (w : World) (t0 : (FloatKind.f64.format.order x 0 == some .eq) = false) (b1 : -1000 ≤ N) (b2 : N ≤ 1000) (h1 : -6 < N) (h2 : N ≤ 21) (hn : S.size = n) (h3 : (n : Int) ≤ N) (hz : N - (n : Int) = (z : Int)) (Z : ByteArray) (hZ : Hid (Z.size ≤ 1000)) (hF : S ++ Z = F)
  (CR : Hid (∀ W, Ct 106 #[.string ⟨#[48]⟩, .int .i64 z] (.string Z) W))
  (C : Hid (∀ W, W = w → Ct 40 #[.float .f64 x] (.tuple #[.string S, .int .i64 N]) W)) :
  Ct 44 #[.float .f64 x] (.string F) w := by
 have h4 : ¬ N ≤ -6 := by omega
 have h5 : ¬ 21 < N := by omega
 have h6 : 0 ≤ (n : Int) := by omega
 have g1 : ¬ 9223372036854775807 < n + Z.size := by have := hZ.out; omega
 have hzz := Lib.hid hz
 go_enter Tryz.func44, Tryz.ntmps44
 go_wp2_with fail
 refine (C.out _ rfl).mono ?_
 rintro e w1 ⟨rfl, b1'⟩
 have B1 := Lib.hid b1'
 clear b1'
 go_wp2_with fail
 refine (CR.out _).mono ?_
 rintro e w2 ⟨rfl, b2'⟩
 have B2 := Lib.hid (below_le B1.out b2')
 clear b2'
 go_wp2
 go_ret
 exact ⟨rfl, B2.out⟩
set_option maxRecDepth 100000 in
set_option maxHeartbeats 1000000 in
theorem tplain_point (x : Nat) (N : Int) (n z : Nat) (S F : ByteArray) (w : World) (t0 : (FloatKind.f64.format.order x 0 == some .eq) = false) (b1 : -1000 ≤ N) (b2 : N ≤ 1000) (h1 : -6 < N) (h2 : N ≤ 21) (hn : S.size = n) (h3 : N < (n : Int)) (hn2 : (n : Int) ≤ 1000) (hz : (n : Int) - N = (z : Int))
  (CP : Hid (∀ W, Ct 55 #[.string S, .int .i64 z] (.string F) W))
  (C : Hid (∀ W, W = w → Ct 40 #[.float .f64 x] (.tuple #[.string S, .int .i64 N]) W)) :
  Ct 44 #[.float .f64 x] (.string F) w := by
 have h4 : ¬ N ≤ -6 := by omega
 have h5 : ¬ 21 < N := by omega
 have h7 : ¬ (n : Int) ≤ N := by omega
 go_enter Tryz.func44, Tryz.ntmps44
 go_wp2_with fail
 refine (C.out _ rfl).mono ?_
 rintro e w1 ⟨rfl, b1'⟩
 have B1 := Lib.hid b1'
 clear b1'
 go_wp2_with fail
 refine (CP.out _).mono ?_
 rintro e w2 ⟨rfl, b2'⟩
 have B2 := Lib.hid (below_le B1.out b2')
 clear b2'
 go_wp2
 go_ret
 exact ⟨rfl, B2.out⟩

end Go.Proofs.YtfcpkdafkmohkaaGreatDoor
namespace Go.Proofs.YtfcpkdafkmohkaaGreatDoor
open Go.RowKit
theorem SQ.form {r : Nat} {D : List Nat} {N : Int} (h : SQ r D N) : ∃ d, d % 10 ≠ 0 ∧ D = dL d ∧ D.length ≤ 17 ∧ decR d (N - D.length) = r := by
 obtain ⟨n, k, c, h1, h2, h3, h4, h5, h6, h7⟩ := h
 have hd := (cnd_some h5).2
 rcases cnd_last h1 h2 h4 h5 with ⟨g1, g2, g3⟩ | ⟨g1, g2⟩
 ·obtain ⟨j, rfl⟩ : ∃ j, k = j + 1 := ⟨k - 1, by omega⟩
  have hl := dL_len (n := c) (k := j) g2 g3
  have e := dL_last g1
  rw [e] at h6
  refine ⟨c, g1, h6, by rw [h6, hl]; exact h3, ?_⟩
  rw [h6, h7, show ((dL c).length : Int) + n - ((j + 1 : Nat) : Int) - ((dL c).length : Int) = n - ((j + 1 : Nat) : Int) by omega]
  exact hd
 ·subst g1 g2
  have e : dL 10 = [49, 48] := by rw [dL_big (by omega), dL_small (by omega)]; rfl
  have e1 : dL 1 = [49] := dL_small (by omega)
  have h8 := decR_shift 1 1 (n - 1)
  rw [show 1 * 10 ^ 1 = 10 from rfl, show n - 1 + ((1 : Nat) : Int) = n by omega] at h8
  rw [e] at h6 h7
  have h9 : D = [49] := h6
  refine ⟨1, by omega, by rw [h9, e1], by rw [h9]; simp, ?_⟩
  rw [h9, h7, show (([49, 48] : List Nat).length : Int) + n - ((1 : Nat) : Int) - (([49] : List Nat).length : Int) = n by simp; omega]
  rw [← h8]
  exact hd
theorem SQ.bd {r : Nat} {D : List Nat} {N : Int} (h : SQ r D N) (h0 : 0 < r) (hr : r < 9218868437227405312) : -400 ≤ N ∧ N ≤ 400 ∧ 1 ≤ D.length ∧ D.length ≤ 17 ∧ (∀ c ∈ D, c < 256) := by
 obtain ⟨d, _, hD, hl, _⟩ := h.form
 obtain ⟨n, k, c, h1, h2, h3, h4, h5, h6, h7⟩ := h
 obtain ⟨m, two, hp⟩ := part_ex h0 hr
 obtain ⟨p, p1, p2, p3⟩ := point_ex hp
 have := point_one h1 p1
 subst this
 have hc : (dL c).length ≤ 18 ∧ 1 ≤ (dL c).length := by
  refine ⟨?_, dL_pos c⟩
  have hlt : c < 10 ^ 18 := by
   rcases cnd_last h1 h2 h4 h5 with ⟨_, _, g⟩ | ⟨_, g⟩
   ·have := Nat.pow_le_pow_right (n := 10) (by omega) (show k ≤ 18 by omega)
    omega
   ·omega
  exact dL_le hlt (by omega)
 refine ⟨by omega, by omega, ?_, hl, ?_⟩
 ·rw [hD]; exact dL_pos d
 ·intro x hx
  rw [hD] at hx
  have := dg10_iff.1 (dL_dig d x hx)
  omega
theorem sq_ex {r : Nat} (h0 : 0 < r) (hr : r < 9218868437227405312) : ∃ D N, SQ r D N := by
 obtain ⟨m, two, hp⟩ := part_ex h0 hr
 obtain ⟨n, hn, _, _⟩ := point_ex hp
 have h17 := cnd_ends hn h0 hr
 have key : ∀ i, i ≤ 16 → (∀ j, 1 ≤ j → j < 17 - i → cnd r n j = none) → ∃ k, 1 ≤ k ∧ k ≤ 17 ∧ (∀ j, 1 ≤ j → j < k → cnd r n j = none) ∧ cnd r n k ≠ none := by
  intro i
  induction i with
  | zero =>
   intro _ h
   exact ⟨17, by omega, by omega, h, h17⟩
  | succ i ih =>
   intro hi h
   by_cases hc : cnd r n (17 - (i + 1)) = none
   ·refine ih (by omega) ?_
    intro j hj1 hj2
    rcases Nat.lt_or_ge j (17 - (i + 1)) with h2 | h2
    ·exact h j hj1 h2
    ·rw [show j = 17 - (i + 1) by omega]
     exact hc
   ·exact ⟨17 - (i + 1), by omega, by omega, h, hc⟩
 obtain ⟨k, k1, k2, k3, k4⟩ := key 16 (by omega) (fun j h1 h2 => by omega)
 cases hc : cnd r n k with
 | none => exact absurd hc k4
 | some c => exact ⟨_, _, n, k, c, hn, k1, k2, k3, hc, rfl, rfl⟩
def plL (D : List Nat) (N : Int) : List Nat :=
 if N ≤ -6 ∨ 21 < N then scL D (N - 1) else if (D.length : Int) ≤ N then D ++ List.replicate (N - D.length).toNat 48 else ptL D ((D.length : Int) - N).toNat
def PlQ (r : Nat) (L : List Nat) : Prop := (r = 0 ∧ L = [48]) ∨ (0 < r ∧ ∃ D N, SQ r D N ∧ L = plL D N)
theorem scL_lt {l : List Nat} {e : Int} (hl : ∀ c ∈ l, c < 256) : ∀ c ∈ scL l e, c < 256 := by
 intro c hc
 unfold scL at hc
 rw [List.mem_append, List.mem_append] at hc
 rcases hc with (hc | hc) | hc
 ·exact mnL_lt hl c hc
 ·unfold sgL at hc
  split at hc <;> simp at hc <;> omega
 ·have := dg10_iff.1 (dL_dig _ c hc)
  omega
theorem ptL_lt {l : List Nat} {k : Nat} (hl : ∀ c ∈ l, c < 256) : ∀ c ∈ ptL l k, c < 256 := by
 intro c hc
 unfold ptL at hc
 split at hc
 ·exact hl c hc
 ·rw [List.mem_append, List.mem_cons] at hc
  rcases hc with hc | rfl | hc
  ·exact mem_rep hl c (List.mem_of_mem_take hc)
  ·omega
  ·exact mem_rep hl c (List.mem_of_mem_drop hc)
theorem scL_len {l : List Nat} {e : Int} (he : e.natAbs < 10 ^ 6) : (scL l e).length ≤ l.length + 10 := by
 unfold scL
 rw [List.length_append, List.length_append]
 have h1 := mnL_len l
 have h2 : (sgL e).length = 2 := by unfold sgL; split <;> rfl
 have h3 := dL_le he (by omega)
 omega
theorem PlQ.bd {r : Nat} {L : List Nat} (hr : r < 9218868437227405312) (h : PlQ r L) : (∀ c ∈ L, c < 256) ∧ L.length ≤ 1000 := by
 rcases h with ⟨_, rfl⟩ | ⟨h0, D, N, hq, rfl⟩
 ·exact ⟨by simp, by simp⟩
 ·obtain ⟨b1, b2, b3, b4, b5⟩ := hq.bd h0 hr
  unfold plL
  split
  ·exact ⟨scL_lt b5, Nat.le_trans (scL_len (by omega)) (by omega)⟩
  ·split
   ·refine ⟨?_, by rw [List.length_append, List.length_replicate]; omega⟩
    intro c hc
    rw [List.mem_append, List.mem_replicate] at hc
    rcases hc with hc | ⟨_, rfl⟩
    ·exact b5 c hc
    ·omega
   ·refine ⟨ptL_lt b5, ?_⟩
    by_cases hz : ((D.length : Int) - N).toNat = 0
    ·unfold ptL; rw [if_pos hz]; omega
    ·rw [ptL_len _ _ hz]; omega
theorem tshortest_is {x : Nat} {D : List Nat} {N : Int} {w : World} (h0 : 0 < x) (hx : x < 9218868437227405312) (ht : Tab10 w) (hz : TzTab w) (h : SQ x D N) :
  Ct 40 #[.float .f64 x] (.tuple #[.string (strOf D), .int .i64 N]) w := by
 refine (tshortest_any x w h0 hx ht hz).mono ?_
 rintro e w' ⟨L, p, rfl, hq, hb⟩
 obtain ⟨rfl, rfl⟩ := h.one hq
 exact ⟨rfl, hb⟩
theorem tplain_any {r : Nat} {L : List Nat} {w : World} (hr : r < 9218868437227405312) (ht : Tab10 w) (hz : TzTab w) (h : PlQ r L) :
  Ct 44 #[.float .f64 r] (.string (strOf L)) w := by
 rcases h with ⟨rfl, rfl⟩ | ⟨h0, D, N, hq, rfl⟩
 ·refine (tplain_zero 0 w (by rw [ord_eq_pos (by omega) (by omega)]; rfl)).mono ?_
  rintro e w' ⟨rfl, rfl⟩
  exact ⟨rfl, Below.refl _ _⟩
 ·obtain ⟨b1, b2, b3, b4, b5⟩ := hq.bd h0 hr
  have t0 : (FloatKind.f64.format.order r 0 == some .eq) = false := by rw [ord_eq_pos (by omega) (by omega)]; exact decide_eq_false (by omega)
  have C : Hid (∀ W, W = w → Ct 40 #[.float .f64 r] (.tuple #[.string (strOf D), .int .i64 N]) W) := Lib.hid (fun W hW => by
   subst hW
   exact tshortest_is h0 hr ht hz hq)
  have CS := Lib.hid (fun W (hW : Below w.heap.size w W) => tscientific_any D (N - 1) W b5 b3 (by omega) (by omega) (by omega) (ht.on hW))
  unfold plL
  by_cases h1 : N ≤ -6
  ·rw [if_pos (.inl h1)]
   exact tplain_low r N _ _ w t0 (by omega) (by omega) h1 CS C
  ·by_cases h2 : 21 < N
   ·rw [if_pos (.inr h2)]
    exact tplain_high r N _ _ w t0 (by omega) (by omega) h2 CS C
   ·rw [if_neg (by omega)]
    by_cases h3 : (D.length : Int) ≤ N
    ·rw [if_pos h3]
     exact tplain_whole r N D.length (N - D.length).toNat _ _ w t0 (by omega) (by omega) (by omega) (by omega) (strOf_size D) h3 (by omega) (strOf (List.replicate (N - D.length).toNat 48)) (Lib.hid (by rw [strOf_size, List.length_replicate]; omega)) (strOf_append _ _) (Lib.hid fun W => trepeat_any _ W (by omega)) C
    ·rw [if_neg h3]
     exact tplain_point r N D.length ((D.length : Int) - N).toNat _ _ w t0 (by omega) (by omega) (by omega) (by omega) (strOf_size D) (by omega) (by omega) (by omega) (Lib.hid fun W => tpointed_any D _ W b5 (by omega) (by omega)) C
def wdS (L : List Nat) : ByteArray := ⟨(bL L).toArray⟩
theorem twide_any (L : List Nat) (w : World) (hL : ∀ c ∈ L, c < 256) (hl : L.length ≤ 100000) : Ct 41 #[.string (strOf L)] (.string (wdS L)) w := by
 have h := wide_any (strOf L) w (by rw [strOf_size]; omega)
 rw [show wdL (strOf L) = bl (strOf L) from bl_data _, bl_strOf hL] at h
 exact h
theorem vwide_any (L : List Nat) (w : World) (hL : ∀ c ∈ L, c < 256) (hl : L.length ≤ 100000) : Ct 38 #[.string (strOf L)] (.string (wdS L)) w := by
 have h := rwide_any (strOf L) w (by rw [strOf_size]; omega)
 rw [show wdL (strOf L) = bl (strOf L) from bl_data _, bl_strOf hL] at h
 exact h
def ngB (x : Nat) : Bool := fneg x && decide (0 < rung x)
theorem ord_neg (x : Nat) : (FloatKind.f64.format.order x 0 == some .lt) = (!fnan x && ngB x) := by
 unfold ngB fnan
 rcases Nat.lt_or_ge 9218868437227405312 (rung x) with h | h
 ·rw [show FloatKind.f64.format.order x 0 = Ieee.double.order x 0 from rfl, order_nan (.inl h), decide_eq_true h]
  rfl
 ·obtain ⟨a1, a2⟩ := frank_pos (x := 0) (by omega)
  rw [show FloatKind.f64.format.order x 0 = Ieee.double.order x 0 from rfl, order_eq h (by omega), a1, decide_eq_false (by omega), Bool.eq_iff_iff, beq_iff_eq, Option.some.injEq, Int.compare_eq_lt]
  unfold frank
  cases fneg x
  ·simp
  ·simp
def sgx (x : Nat) : List Nat := if ngB x = true then [45] else []
def SgQ (T : Nat → List Nat → Prop) (x : Nat) (L : List Nat) : Prop :=
 (fnan x = true ∧ L = [78, 97, 78]) ∨ (fnan x = false ∧ finf x = true ∧ L = sgx x ++ infL) ∨ (fnan x = false ∧ finf x = false ∧ ∃ l, T (rung x) l ∧ L = sgx x ++ l)
theorem fin_rung {x : Nat} (h1 : fnan x = false) (h2 : finf x = false) : rung x < 9218868437227405312 := by
 have := of_decide_eq_false h1
 have := of_decide_eq_false h2
 omega
set_option maxHeartbeats 1000000 in
theorem tsigned_any {T : Nat → List Nat → Prop} {x : Nat} {L : List Nat} {w : World} (f : FuncId) (hx : x < 18446744073709551616)
  (he : ∀ args (W : World), (callFunc f args).run Tryz.prog W = .ok (.enter f args) W)
  (hT : ∀ r l, r < 9218868437227405312 → T r l → (∀ c ∈ l, c < 256) ∧ l.length ≤ 99000 ∧ Ct f #[.float .f64 r] (.string (strOf l)) w)
  (h : SgQ T x L) : Ct 43 #[.float .f64 x, .func (Fn.func f) #[] #[]] (.string (wdS L)) w := by
 have t0 := ord_neg x
 have CN := fun W => isNaN_any x W
 have CI := fun W => isInf0_any x W hx
 rcases h with ⟨h1, rfl⟩ | ⟨h1, h2, rfl⟩ | ⟨h1, h2, l, h3, rfl⟩
 ·rw [h1] at t0 CN
  exact tsigned_00nan x f _ w t0 (Lib.hid CN) (Lib.hid fun W => twide_any [78, 97, 78] W (by simp) (by simp))
 ·rw [h1] at t0 CN
  rw [h2] at CI
  unfold sgx
  cases hn : ngB x
  ·rw [hn] at t0
   exact tsigned_00inf x f _ w t0 (Lib.hid CN) (Lib.hid CI) (Lib.hid fun W => twide_any _ W (by decide) (by decide))
  ·rw [hn] at t0
   exact tsigned_01inf x f _ w t0 (Lib.hid CN) (Lib.hid CI) (Lib.hid fun W => twide_any _ W (by decide) (by decide))
 ·rw [h1] at t0 CN
  rw [h2] at CI
  obtain ⟨l1, l2, hc⟩ := hT _ l (fin_rung h1 h2) h3
  have CA := fun W => abs_any x W hx
  have CT : Hid (∀ W, W = w → Ct f #[.float .f64 (rung x)] (.string (strOf l)) W) := Lib.hid (fun W hW => by
   subst hW
   exact hc)
  unfold sgx
  cases hn : ngB x
  ·rw [hn] at t0
   refine tsigned_00fin x f (strOf l) (strOf l) (rung x) _ w t0 (Lib.hid CN) (Lib.hid CI) (Lib.hid CA) he CT (Lib.hid (by rw [strOf_size]; omega)) ?_ (Lib.hid fun W => twide_any _ W l1 (by omega))
   rw [show (⟨#[]⟩ : ByteArray) = strOf [] from rfl, strOf_append]
   rfl
  ·rw [hn] at t0
   refine tsigned_01fin x f (strOf l) (strOf ([45] ++ l)) (rung x) _ w t0 (Lib.hid CN) (Lib.hid CI) (Lib.hid CA) he CT (Lib.hid (by rw [strOf_size]; omega)) ?_ (Lib.hid fun W => twide_any _ W ?_ ?_)
   ·rw [show (⟨#[45]⟩ : ByteArray) = strOf [45] from rfl, strOf_append]
   ·intro c hc
    rw [List.mem_append, List.mem_singleton] at hc
    rcases hc with rfl | hc
    ·omega
    ·exact l1 c hc
   ·rw [List.length_append, List.length_singleton]
    omega
def TxQ (x : Nat) (L : List Nat) : Prop := SgQ PlQ x L
theorem tText_any {x : Nat} {L : List Nat} {w : World} (hx : x < 18446744073709551616) (ht : Tab10 w) (hz : TzTab w) (h : TxQ x L) :
  Ct 14 #[.float .f64 x] (.string (wdS L)) w := by
 have C := Lib.hid (fun W (hW : W = w) => tsigned_any (T := PlQ) (w := W) 44 hx (fun args W' => by go_simp) (fun r l hr hl => by
  subst hW
  obtain ⟨b1, b2⟩ := hl.bd hr
  exact ⟨b1, by omega, tplain_any hr ht hz hl⟩) h)
 clear h ht hz
 go_enter Tryz.func14, Tryz.ntmps14
 go_wp2_with fail
 refine (C.out _ rfl).mono ?_
 rintro e w1 ⟨rfl, b1⟩
 go_wp2
 go_ret
 exact ⟨rfl, b1⟩

end Go.Proofs.YtfcpkdafkmohkaaGreatDoor
namespace Go.Proofs.YtfcpkdafkmohkaaGreatDoor
open Go.RowKit
theorem big_tenth : ∃ X : Nat, 0 < X ∧ big = 72057594037927936 * X ∧ fmag 4591870180066957722 = 7205759403792794 * X ∧ fmag 4591870180066957721 = 7205759403792793 * X ∧ fmag 4591870180066957723 = 7205759403792795 * X := by
 obtain ⟨K, hK, hb⟩ := big_K
 obtain ⟨J, hJ⟩ : ∃ J : Nat, J = 1018 := ⟨_, rfl⟩
 have h1 := fmag_make 7205759403792794 J (by omega) (by omega)
 have h2 := fmag_make 7205759403792793 J (by omega) (by omega)
 have h3 := fmag_make 7205759403792795 J (by omega) (by omega)
 rw [show J * 4503599627370496 + 7205759403792794 = 4591870180066957722 by omega] at h1
 rw [show J * 4503599627370496 + 7205759403792793 = 4591870180066957721 by omega] at h2
 rw [show J * 4503599627370496 + 7205759403792795 = 4591870180066957723 by omega] at h3
 refine ⟨2 ^ J, two_pos J, ?_, h1, h2, h3⟩
 rw [hb, show K = 56 + J by omega, Nat.pow_add]
theorem decR_tenth : decR 1 (-1) = 4591870180066957722 := by
 obtain ⟨X, hX, hb, h1, h2, h3⟩ := big_tenth
 rw [decR_big]
 unfold vV
 rw [show (-(-(-1 : Int))).toNat = 0 by omega, show (-(-1 : Int)).toNat = 1 by omega, Nat.pow_zero, Nat.pow_one, Nat.mul_one, Nat.one_mul, rnd_iff (by omega) (by omega) (by omega), h1, show 4591870180066957722 - 1 = 4591870180066957721 by omega, h2, show 4591870180066957722 + 1 = 4591870180066957723 by omega, h3, hb]
 exact ⟨.inl (by omega), .inl (by omega)⟩
theorem sq_tenth : SQ 4591870180066957722 [49] 0 := by
 obtain ⟨X, hX, hb, h1, _, _⟩ := big_tenth
 have e1 : dL 1 = [49] := dL_small (by omega)
 have hU : vU 4591870180066957722 (((1 : Nat) : Int) - 0) = 72057594037927940 * X := by
  unfold vU
  rw [h1, show (((1 : Nat) : Int) - 0).toNat = 1 by omega, Nat.pow_one]
  omega
 have hV : vV (((1 : Nat) : Int) - 0) = 72057594037927936 * X := by
  unfold vV
  rw [hb, show (-(((1 : Nat) : Int) - 0)).toNat = 0 by omega, Nat.pow_zero, Nat.mul_one]
 have hq : cq 4591870180066957722 0 1 = 1 := by
  unfold cq
  rw [hU, hV, Nat.mul_div_mul_right _ _ hX]
 have hm : vU 4591870180066957722 (((1 : Nat) : Int) - 0) % vV (((1 : Nat) : Int) - 0) = 4 * X := by
  rw [hU, hV, Nat.mul_mod_mul_right]
 have hl : clow 4591870180066957722 0 1 = true := by
  unfold clow
  rw [hq]
  exact decide_eq_true decR_tenth
 have hn : cnear 4591870180066957722 0 1 = true := by
  unfold cnear
  rw [hm, hV, decide_eq_true (by omega), Bool.true_or]
 refine ⟨0, 1, 1, ⟨?_, ?_⟩, by omega, by omega, by omega, ?_, by rw [e1]; rfl, by rw [e1]; rfl⟩
 ·unfold le10
  rw [h1, hb, show ((0 : Int) - 1).toNat = 0 by omega, show (-((0 : Int) - 1)).toNat = 1 by omega, Nat.pow_zero, Nat.pow_one]
  omega
 ·unfold le10
  rw [h1, hb, show (0 : Int).toNat = 0 by omega, show (-(0 : Int)).toNat = 0 by omega, Nat.pow_zero]
  omega
 ·unfold cnd
  rw [hl, hn, hq]
  simp
theorem tx_tenth : TxQ 4591870180066957722 [48, 46, 49] := by
 refine .inr (.inr ⟨by decide, by decide, [48, 46, 49], .inr ⟨by decide, [49], 0, ?_, by decide⟩, by decide⟩)
 have : rung 4591870180066957722 = 4591870180066957722 := by decide
 rw [this]
 exact sq_tenth
theorem us_wdS {L : List Nat} (hL : ∀ c ∈ L, c < 256) : us (wdS L) = L := by
 unfold us wdS
 show uL (bL L) = L
 exact uL_bL _ (fun c hc => by have := hL c hc; omega)
theorem num_tenth : numW (nrw 0 (us (trimS (wdS [48, 46, 49])))) = 4591870180066957722 := by
 have h : nrw 0 (us (trimS (wdS [48, 46, 49]))) = [48, 46, 49] := by decide +kernel
 rw [h]
 unfold numW
 rw [if_neg (by decide), if_neg (by decide), if_neg (by decide), if_pos (by decide)]
 have h1 : sgnB [48, 46, 49] = false := by decide
 rw [h1, sgW_f]
 have h2 : unsg [48, 46, 49] = [48, 46, 49] := by decide
 rw [h2]
 unfold dV
 rw [show num 10 (dW [48, 46, 49] ++ dF [48, 46, 49]) = 1 by decide, show dX [48, 46, 49] - ((dF [48, 46, 49]).length : Int) = -1 by decide]
 exact decR_tenth
theorem awake_any (w : World) (ht : Tab10 w) (hz : TzTab w) : Ct 16 #[] (.bool true) w := by
 have C1 := Lib.hid (fun W (hW : W = w) => tText_any (x := 4591870180066957722) (L := [48, 46, 49]) (w := W) (by omega) (hW ▸ ht) (hW ▸ hz) tx_tenth)
 have C2 := Lib.hid (fun W => vwide_any [48, 46, 49] W (by simp) (by simp))
 have C3 := Lib.hid (fun W => tNumber_any (wdS [48, 46, 49]) W (by decide +kernel))
 rw [num_tenth] at C3
 have t1 : (FloatKind.f64.format.order 4591870180066957722 4591870180066957722 == some .eq) = true := by rw [ord_eq_pos (by omega) (by omega)]; exact decide_eq_true rfl
 obtain ⟨S, hS⟩ : ∃ S, wdS [48, 46, 49] = S := ⟨_, rfl⟩
 rw [hS] at C1 C2 C3
 rw [show strOf [48, 46, 49] = ⟨#[48, 46, 49]⟩ from rfl] at C2
 clear ht hz hS
 go_enter Tryz.func16, Tryz.ntmps16
 go_wp2_with fail
 refine (C1.out _ rfl).mono ?_
 rintro e w1 ⟨rfl, b1⟩
 have B1 := Lib.hid b1
 clear b1
 go_wp2_with fail
 refine (C2.out _).mono ?_
 rintro e w2 ⟨rfl, b2⟩
 have B2 := Lib.hid (below_le B1.out b2)
 clear b2
 go_wp2_with fail
 refine (C2.out _).mono ?_
 rintro e w3 ⟨rfl, b3⟩
 have B3 := Lib.hid (below_le B2.out b3)
 clear b3
 go_wp2_with fail
 refine (C3.out _).mono ?_
 rintro e w4 ⟨rfl, b4⟩
 have B4 := Lib.hid (below_le B3.out b4)
 clear b4
 go_wp2
 go_ret
 exact ⟨rfl, B4.out⟩
end Go.Proofs.YtfcpkdafkmohkaaGreatDoor
namespace Go.Proofs.YtfcpkdafkmohkaaGreatDoor
theorem run_app {W r : List Nat} (hW : ∀ c ∈ W, dg10 c = true) (hr : ∀ c, r.head? = some c → dg10 c = false) : run10 (W ++ r) = W ∧ aft10 (W ++ r) = r := by
 induction W with
 | nil =>
  cases r with
  | nil => exact ⟨rfl, rfl⟩
  | cons c r =>
   have h := hr c rfl
   unfold run10 aft10
   rw [List.nil_append, List.takeWhile_cons_of_neg (by simp [h]), List.dropWhile_cons_of_neg (by simp [h])]
   exact ⟨rfl, rfl⟩
 | cons c W ih =>
  obtain ⟨i1, i2⟩ := ih (fun x hx => hW x (by simp [hx]))
  have h := hW c (by simp)
  unfold run10 aft10 at *
  rw [List.cons_append, List.takeWhile_cons_of_pos h, List.dropWhile_cons_of_pos h, i1, i2]
  exact ⟨rfl, rfl⟩
theorem unsg_digit {l : List Nat} {a : Nat} {t : List Nat} (h : l = a :: t) (h1 : 48 ≤ a) : unsg l = l ∧ sgnB l = false := by
 subst h
 unfold unsg sgnB
 have e1 : a ≠ 45 := by omega
 have e2 : a ≠ 43 := by omega
 simp [e1, e2]
def ExpIs (E : List Nat) (X : Int) : Prop := (E = [] ∧ X = 0) ∨ (∃ sg K, E = 101 :: sg :: K ∧ (sg = 43 ∨ sg = 45) ∧ K ≠ [] ∧ (∀ c ∈ K, dg10 c = true) ∧ X = if sg = 45 then -(amt K : Int) else (amt K : Int)) ∨ ∃ K, E = 101 :: K ∧ K ≠ [] ∧ (∀ c ∈ K, dg10 c = true) ∧ X = (amt K : Int)
theorem ExpIs.head {E : List Nat} {X : Int} (h : ExpIs E X) : ∀ c, E.head? = some c → dg10 c = false ∧ c ≠ 46 := by
 rcases h with ⟨rfl, _⟩ | ⟨sg, K, rfl, _⟩ | ⟨K, rfl, _⟩
 ·intro c hc
  cases hc
 ·intro c hc
  have : c = 101 := by simpa using hc.symm
  subst this
  exact ⟨by decide, by omega⟩
 ·intro c hc
  have : c = 101 := by simpa using hc.symm
  subst this
  exact ⟨by decide, by omega⟩
theorem ExpIs.read {E : List Nat} {X : Int} (h : ExpIs E X) : exV E = X ∧ exR E = [] := by
 rcases h with ⟨rfl, rfl⟩ | ⟨sg, K, rfl, hs, hK, hd, rfl⟩ | ⟨K, rfl, hK, hd, rfl⟩
 ·exact ⟨by decide, by decide⟩
 ·have hu : unsg (sg :: K) = K := by
   unfold unsg
   rcases hs with rfl | rfl <;> simp
  obtain ⟨r1, r2⟩ := run_app (W := K) (r := []) hd (by simp)
  rw [List.append_nil] at r1 r2
  have hb : expB (101 :: sg :: K) = true := by
   unfold expB
   rw [List.tail_cons, hu, r1]
   cases K with
   | nil => exact absurd rfl hK
   | cons a b => simp
  constructor
  ·unfold exV expV
   rw [hb, if_pos rfl, List.tail_cons, hu, r1]
   unfold sgnB
   rcases hs with rfl | rfl <;> simp
  ·unfold exR expR
   rw [hb, if_pos rfl, List.tail_cons, hu, r2]
 ·obtain ⟨hu, hs⟩ : unsg K = K ∧ sgnB K = false := by
   cases K with
   | nil => exact absurd rfl hK
   | cons a t =>
    have := dg10_iff.1 (hd a (by simp))
    exact unsg_digit rfl (by omega)
  obtain ⟨r1, r2⟩ := run_app (W := K) (r := []) hd (by simp)
  rw [List.append_nil] at r1 r2
  have hb : expB (101 :: K) = true := by
   unfold expB
   rw [List.tail_cons, hu, r1]
   cases K with
   | nil => exact absurd rfl hK
   | cons a b => simp
  constructor
  ·unfold exV expV
   rw [hb, if_pos rfl, List.tail_cons, hu, r1, hs]
   simp
  ·unfold exR expR
   rw [hb, if_pos rfl, List.tail_cons, hu, r2]
def PointIs (P F : List Nat) : Prop := (P = [] ∧ F = []) ∨ (P = 46 :: F)
theorem dec_parts {W P F E : List Nat} {X : Int} (hW0 : W ≠ []) (hW : ∀ c ∈ W, dg10 c = true) (hF : ∀ c ∈ F, dg10 c = true) (hP : PointIs P F) (hE : ExpIs E X) :
  dB (W ++ (P ++ E)) = true ∧ dW (W ++ (P ++ E)) = W ∧ dF (W ++ (P ++ E)) = F ∧ dX (W ++ (P ++ E)) = X ∧ dR (W ++ (P ++ E)) = [] := by
 have hh := hE.head
 have he := hE.read
 have hr : ∀ c, (P ++ E).head? = some c → dg10 c = false := by
  rcases hP with ⟨rfl, rfl⟩ | rfl
  ·intro c hc
   exact (hh c hc).1
  ·intro c hc
   have : c = 46 := by simpa using hc.symm
   subst this
   decide
 obtain ⟨r1, r2⟩ := run_app hW hr
 have hw : dW (W ++ (P ++ E)) = W := r1
 have key : dF (W ++ (P ++ E)) = F ∧ dT (W ++ (P ++ E)) = E := by
  unfold dF dT
  rw [r2]
  rcases hP with ⟨rfl, rfl⟩ | rfl
  ·have hd : dotB ([] ++ E) = false := by
    unfold dotB
    cases hE' : E with
    | nil => rfl
    | cons a b =>
     have := (hh a (by rw [hE']; rfl)).2
     simp [this]
   rw [hd]
   exact ⟨rfl, rfl⟩
  ·have hd : dotB ((46 :: F) ++ E) = true := rfl
   rw [hd, if_pos rfl, if_pos rfl, List.cons_append, List.tail_cons]
   exact run_app hF (fun c hc => (hh c hc).1)
 refine ⟨?_, hw, key.1, ?_, ?_⟩
 ·unfold dB
  rw [hw]
  cases W with
  | nil => exact absurd rfl hW0
  | cons a b => rfl
 ·unfold dX
  rw [key.2]
  exact he.1
 ·unfold dR
  rw [key.2]
  exact he.2
theorem first_digit {W r : List Nat} (hW0 : W ≠ []) (hW : ∀ c ∈ W, dg10 c = true) : ∃ a t, W ++ r = a :: t ∧ 48 ≤ a ∧ a ≤ 57 := by
 cases W with
 | nil => exact absurd rfl hW0
 | cons a b => exact ⟨a, b ++ r, rfl, dg10_iff.1 (hW a (by simp))⟩
theorem unsg_neg (l : List Nat) : unsg (45 :: l) = l ∧ sgnB (45 :: l) = true := by
 unfold unsg sgnB
 simp
theorem no_x {W P F E : List Nat} {X : Int} (hW : ∀ c ∈ W, dg10 c = true) (hF : ∀ c ∈ F, dg10 c = true) (hP : PointIs P F) (hE : ExpIs E X) : ∀ c ∈ W ++ (P ++ E), c ≠ 120 ∧ c ≠ 88 ∧ c ≤ 127 ∧ 43 ≤ c := by
 intro c hc
 have key : dg10 c = true ∨ c = 46 ∨ c = 101 ∨ c = 43 ∨ c = 45 := by
  rw [List.mem_append, List.mem_append] at hc
  rcases hc with hc | hc | hc
  ·exact .inl (hW c hc)
  ·rcases hP with ⟨rfl, rfl⟩ | rfl
   ·cases hc
   ·rcases List.mem_cons.1 hc with h | h
    ·exact .inr (.inl h)
    ·exact .inl (hF c h)
  ·rcases hE with ⟨rfl, _⟩ | ⟨sg, K, rfl, hs, _, hd, _⟩ | ⟨K, rfl, _, hd, _⟩
   rotate_left 2
   ·rcases List.mem_cons.1 hc with h | h
    ·exact .inr (.inr (.inl h))
    ·exact .inl (hd c h)
   ·cases hc
   ·rcases List.mem_cons.1 hc with h | h
    ·exact .inr (.inr (.inl h))
    ·rcases List.mem_cons.1 h with h | h
     ·rcases hs with hs | hs
      ·exact .inr (.inr (.inr (.inl (h.trans hs))))
      ·exact .inr (.inr (.inr (.inr (h.trans hs))))
     ·exact .inl (hd c h)
 rcases key with h | h | h | h | h
 ·have := dg10_iff.1 h
  omega
 all_goals omega
theorem no_hex {l : List Nat} (h : ∀ c ∈ l, c ≠ 120 ∧ c ≠ 88) : hxB l = false := by
 have ha : hxA l = false := by
  unfold hxA
  cases l with
  | nil => rfl
  | cons a t =>
   cases t with
   | nil => simp
   | cons b t =>
    obtain ⟨h1, h2⟩ := h b (by simp)
    simp [h1, h2]
 unfold hxB
 rw [ha]
 rfl
theorem num_dec {W P F E : List Nat} {X : Int} (hW0 : W ≠ []) (hW : ∀ c ∈ W, dg10 c = true) (hF : ∀ c ∈ F, dg10 c = true) (hP : PointIs P F) (hE : ExpIs E X) :
  numW (W ++ (P ++ E)) = decR (num 10 (W ++ F)) (X - F.length) ∧ numW (45 :: (W ++ (P ++ E))) = sgW true (decR (num 10 (W ++ F)) (X - F.length)) := by
 obtain ⟨d1, d2, d3, d4, d5⟩ := dec_parts hW0 hW hF hP hE
 obtain ⟨a, t, e, a1, a2⟩ := first_digit (r := P ++ E) hW0 hW
 obtain ⟨u1, u2⟩ := unsg_digit e a1
 obtain ⟨v1, v2⟩ := unsg_neg (W ++ (P ++ E))
 have hx := no_x hW hF hP hE
 have hi : W ++ (P ++ E) ≠ infL := by
  rw [e]
  intro h
  have : a = 73 := by
   have := congrArg List.head? h
   simpa [infL] using this
  omega
 have hv : dV (W ++ (P ++ E)) = decR (num 10 (W ++ F)) (X - F.length) := by
  unfold dV
  rw [d2, d3, d4]
 constructor
 ·unfold numW
  rw [if_neg (by rw [e]; simp), no_hex (fun c hc => ⟨(hx c hc).1, (hx c hc).2.1⟩), if_neg (by simp), u1, u2, if_neg hi, if_pos ⟨d1, d5⟩, sgW_f, hv]
 ·unfold numW
  rw [if_neg (by simp), no_hex (fun c hc => by
   rcases List.mem_cons.1 hc with h | h
   ·exact ⟨by omega, by omega⟩
   ·exact ⟨(hx c h).1, (hx c h).2.1⟩), if_neg (by simp), v1, v2, if_neg hi, if_pos ⟨d1, d5⟩, hv]
theorem amt_dL (n : Nat) : n < 1000000000000 → amt (dL n) = n := by
 refine dL_ind (P := fun n => n < 1000000000000 → amt (dL n) = n) ?_ ?_ n
 ·intro n h _
  rw [dL_small h]
  show amtS 0 (48 + n) = n
  unfold amtS
  rw [if_pos (by omega)]
  omega
 ·intro n h ih hn
  rw [dL_big h, amt_snoc, ih (by omega)]
  unfold amtS
  rw [if_pos (by omega)]
  omega
theorem nrw_same {z : Nat} {L : List Nat} (h : ∀ c ∈ L, c ≤ 127) : nrw z L = L := by
 unfold nrw
 rw [List.map_congr_left (g := id) (fun c hc => by simp; have := h c hc; omega), List.map_id]
theorem trim_same {s : ByteArray} (h : ∀ c ∈ us s, blB ((c : Nat) : Int) = false) : us (trimS s) = us s := by
 have hu : ∀ i, i < ln s → blU s i = false := by
  intro i hi
  unfold blU
  have hl : i < (us s).length := by rw [us_length]; exact hi
  rw [← us_getElem s i hl]
  exact h _ (List.getElem_mem hl)
 have hF : frS s = 0 := by
  unfold frS
  refine tF_end s _ _ ?_
  rintro ⟨h1, h2⟩
  rw [hu 0 h1] at h2
  cases h2
 have hT : toS s = ln s := by
  unfold toS
  rw [hF]
  rcases Nat.eq_zero_or_pos (ln s) with h0 | h0
  ·rw [h0]; rfl
  ·obtain ⟨f, hf⟩ : ∃ f, ln s = f + 1 := ⟨ln s - 1, by omega⟩
   rw [hf]
   unfold tT
   rw [if_neg]
   rintro ⟨h1, h2⟩
   rw [hu (f + 1 - 1) (by omega)] at h2
   cases h2
 unfold trimS
 rw [hF, hT, us_slS s 0 (ln s) (Nat.le_refl _), List.drop_zero, Nat.sub_zero, us_take_all]
theorem ahead_same {L : List Nat} (h : ∀ c, L.head? = some c → blkN c = false) : ahL L = L := by
 unfold ahL
 cases L with
 | nil => rfl
 | cons a t =>
  rw [List.dropWhile_cons_of_neg (by simp [h a rfl])]
theorem blk_not {c : Nat} (h1 : 43 ≤ c) (h2 : c ≤ 127) : blkN c = false := by
 have key : ∀ d : Fin 128, 43 ≤ d.val → blkN d.val = false := by decide
 exact key ⟨c, by omega⟩ h1
theorem numW_wide {L : List Nat} (h : ∀ c ∈ L, 43 ≤ c ∧ c ≤ 127) : nrw 0 (us (trimS (wdS L))) = L ∧ nrw 0 (us (wdS L)) = L ∧ nrw 0 (ahL (us (wdS L))) = L := by
 have h1 : us (wdS L) = L := us_wdS (fun c hc => by have := h c hc; omega)
 have h2 : nrw 0 L = L := nrw_same (fun c hc => (h c hc).2)
 refine ⟨?_, by rw [h1, h2], ?_⟩
 ·rw [trim_same (fun c hc => by
   rw [h1] at hc
   exact blk_not (h c hc).1 (h c hc).2), h1, h2]
 ·rw [h1, ahead_same (fun c hc => by
   cases L with
   | nil => cases hc
   | cons a t =>
    have : a = c := by simpa using hc
    subst this
    exact blk_not (h a (by simp)).1 (h a (by simp)).2), h2]

end Go.Proofs.YtfcpkdafkmohkaaGreatDoor
namespace Go.Proofs.YtfcpkdafkmohkaaGreatDoor
open Go.RowKit
def DecIs (l : List Nat) (v : Nat) : Prop := ∃ W P F E X, W ≠ [] ∧ (∀ c ∈ W, dg10 c = true) ∧ (∀ c ∈ F, dg10 c = true) ∧ PointIs P F ∧ ExpIs E X ∧ (W = [48] ∨ W.head? ≠ some 48) ∧ l = W ++ (P ++ E) ∧ decR (num 10 (W ++ F)) (X - F.length) = v
theorem num_rep (z : Nat) (D : List Nat) : num 10 (List.replicate z 48 ++ D) = num 10 D := by
 rw [num_append, num_zeros, Nat.zero_mul, Nat.zero_add]
theorem num_app0 (D : List Nat) (j : Nat) : num 10 (D ++ List.replicate j 48) = num 10 D * 10 ^ j := by
 rw [num_append, num_zeros, Nat.add_zero, List.length_replicate]
theorem dg_rep (z : Nat) {D : List Nat} (hD : ∀ c ∈ D, dg10 c = true) : ∀ c ∈ List.replicate z 48 ++ D, dg10 c = true := by
 intro c hc
 rw [List.mem_append, List.mem_replicate] at hc
 rcases hc with ⟨_, rfl⟩ | hc
 ·decide
 ·exact hD c hc
theorem dec_whole {D : List Nat} (h0 : D ≠ []) (hD : ∀ c ∈ D, dg10 c = true) (hh : D = [48] ∨ D.head? ≠ some 48) (j : Nat) (hj : j = 0 ∨ D.head? ≠ some 48) : DecIs (D ++ List.replicate j 48) (decR (num 10 D) (j : Int)) := by
 refine ⟨D ++ List.replicate j 48, [], [], [], 0, by simp [h0], ?_, by simp, .inl ⟨rfl, rfl⟩, .inl ⟨rfl, rfl⟩, ?_, by simp, ?_⟩
 ·intro c hc
  rw [List.mem_append, List.mem_replicate] at hc
  rcases hc with hc | ⟨_, rfl⟩
  ·exact hD c hc
  ·decide
 ·rcases hj with rfl | hj
  ·rw [List.replicate_zero, List.append_nil]
   exact hh
  ·right
   cases D with
   | nil => exact absurd rfl h0
   | cons a t => simpa using hj
 ·rw [List.append_nil, num_app0, decR_shift]
  simp
theorem dec_point {D : List Nat} (h0 : D ≠ []) (hD : ∀ c ∈ D, dg10 c = true) (hh : D.head? ≠ some 48) (k : Nat) : DecIs (ptL D k) (decR (num 10 D) (-(k : Int))) := by
 unfold ptL
 split
 ·rename_i hk
  subst hk
  have := dec_whole h0 hD (.inr hh) 0 (.inl rfl)
  rw [List.replicate_zero, List.append_nil] at this
  exact this
 ·rename_i hk
  obtain ⟨n, hn⟩ : ∃ n, D.length = n := ⟨_, rfl⟩
  have hn0 : 0 < n := by
   rw [← hn]
   exact List.length_pos_iff.2 h0
  obtain ⟨z, hz⟩ : ∃ z, k + 1 - n = z := ⟨_, rfl⟩
  rw [hn, hz]
  have hdig := dg_rep z hD
  have hlen : (List.replicate z 48 ++ D).length = z + n := by rw [List.length_append, List.length_replicate, hn]
  obtain ⟨M, hM⟩ : ∃ M, List.replicate z 48 ++ D = M := ⟨_, rfl⟩
  rw [hM] at hdig hlen ⊢
  have hl1 : (M.take (z + n - k)).length = z + n - k := by rw [List.length_take, hlen]; omega
  have hl2 : (M.drop (z + n - k)).length = k := by rw [List.length_drop, hlen]; omega
  refine ⟨M.take (z + n - k), 46 :: M.drop (z + n - k), M.drop (z + n - k), [], 0, ?_, fun c hc => hdig c (List.mem_of_mem_take hc), fun c hc => hdig c (List.mem_of_mem_drop hc), .inr rfl, .inl ⟨rfl, rfl⟩, ?_, by rw [List.append_nil], ?_⟩
  ·intro h
   rw [h, List.length_nil] at hl1
   omega
  ·rcases Nat.lt_or_ge k n with h | h
   ·right
    have hz0 : z = 0 := by omega
    subst hz0
    rw [List.replicate_zero, List.nil_append] at hM
    subst hM
    cases D with
    | nil => exact absurd rfl h0
    | cons a t =>
     obtain ⟨q, hq⟩ : ∃ q, 0 + n - k = q + 1 := ⟨0 + n - k - 1, by omega⟩
     rw [hq, List.take_succ_cons]
     simpa using hh
   ·left
    obtain ⟨q, hq⟩ : ∃ q, z = q + 1 := ⟨z - 1, by omega⟩
    rw [show z + n - k = 1 by omega, ← hM, hq, List.replicate_succ, List.cons_append, List.take_succ_cons, List.take_zero]
  ·rw [List.take_append_drop, ← hM, num_rep, hM, hl2]
   congr 1
   omega
theorem dec_exp {D : List Nat} (h0 : D ≠ []) (hD : ∀ c ∈ D, dg10 c = true) (hh : D = [48] ∨ D.head? ≠ some 48 ∨ ∃ t, D = 48 :: t) {e : Int} (he : e.natAbs < 1000000000000) : DecIs (scL D e) (decR (num 10 D) (e - (D.length : Int) + 1)) := by
 cases D with
 | nil => exact absurd rfl h0
 | cons a t =>
  have ha : dg10 a = true := hD a (by simp)
  have ht : ∀ c ∈ t, dg10 c = true := fun c hc => hD c (by simp [hc])
  have hE : ExpIs (sgL e ++ dL e.natAbs) e := by
   right
   left
   unfold sgL
   split
   ·rename_i h
    refine ⟨45, dL e.natAbs, rfl, .inr rfl, dL_ne _, dL_dig _, ?_⟩
    rw [if_pos rfl, amt_dL _ he]
    omega
   ·rename_i h
    refine ⟨43, dL e.natAbs, rfl, .inl rfl, dL_ne _, dL_dig _, ?_⟩
    rw [if_neg (by omega), amt_dL _ he]
    omega
  have hW : ([a] : List Nat) = [48] ∨ ([a] : List Nat).head? ≠ some 48 := by
   by_cases h : a = 48
   ·left; rw [h]
   ·right; simpa using h
  have hv : e - (t.length : Int) = e - ((a :: t).length : Int) + 1 := by
   rw [List.length_cons]
   omega
  cases t with
  | nil =>
   refine ⟨[a], [], [], _, e, by simp, by simpa using ha, by simp, .inl ⟨rfl, rfl⟩, hE, hW, ?_, ?_⟩
   ·unfold scL mnL
    rw [if_pos (by simp)]
    simp
   ·rw [List.append_nil, ← hv]
  | cons b u =>
   refine ⟨[a], 46 :: b :: u, b :: u, _, e, by simp, by simpa using ha, ht, .inr rfl, hE, hW, ?_, ?_⟩
   ·unfold scL mnL
    rw [if_neg (by simp)]
    simp
   ·rw [← hv]
    rfl
theorem DecIs.low {l : List Nat} {v : Nat} (h : DecIs l v) : ∀ c ∈ l, 43 ≤ c ∧ c ≤ 127 := by
 obtain ⟨W, P, F, E, X, h0, hW, hF, hP, hE, hh, rfl, hv⟩ := h
 have hd : ∀ c, dg10 c = true → 43 ≤ c ∧ c ≤ 127 := fun c hc => by
  have := dg10_iff.1 hc
  omega
 intro c hc
 rw [List.mem_append, List.mem_append] at hc
 rcases hc with hc | hc | hc
 ·exact hd c (hW c hc)
 ·rcases hP with ⟨rfl, _⟩ | rfl
  ·cases hc
  ·rcases List.mem_cons.1 hc with rfl | hc
   ·omega
   ·exact hd c (hF c hc)
 ·rcases hE with ⟨rfl, _⟩ | ⟨sg, K, rfl, hs, _, hK, _⟩ | ⟨K, rfl, _, hK, _⟩
  rotate_left 2
  ·rcases List.mem_cons.1 hc with rfl | hc
   ·omega
   ·exact hd c (hK c hc)
  ·cases hc
  ·rcases List.mem_cons.1 hc with rfl | hc
   ·omega
   ·rcases List.mem_cons.1 hc with rfl | hc
    ·omega
    ·exact hd c (hK c hc)
theorem DecIs.num {l : List Nat} {v : Nat} (h : DecIs l v) : numW l = v ∧ numW (45 :: l) = sgW true v := by
 obtain ⟨W, P, F, E, X, h0, hW, hF, hP, hE, hh, rfl, rfl⟩ := h
 exact num_dec h0 hW hF hP hE
end Go.Proofs.YtfcpkdafkmohkaaGreatDoor
namespace Go.Proofs.YtfcpkdafkmohkaaGreatDoor
open Go.RowKit
theorem one_byte (w : World) (d : Nat) (hd : d < 10) : (convert 85 9 (.slice (some ⟨w.heap.size, 0, none⟩) 1 1)).run Tryz.prog (w.alloc (.cells #[.int .u8 (48 + (d : Int))] 5)) = .ok (.string (strOf [48 + d])) (w.alloc (.cells #[.int .u8 (48 + (d : Int))] 5)) := by
 have h := run_convert_bytes_back (P := Tryz.prog) (w.alloc (.cells #[.int .u8 (48 + (d : Int))] 5)) 85 9 5 ⟨w.heap.size, 0, none⟩ 1 [UInt8.ofNat (48 + d)] Tryz.underlying85 Tryz.underlying5 Tryz.underlying9 (fun j hj => by
  have hj0 : j = 0 := by simpa using hj
  subst hj0
  rw [Lib.add_plain, World.cell?_alloc_new]
  show (#[Value.int .u8 (48 + (d : Int))] : Array Value)[0]? = _
  simp
  omega)
 have e : (⟨([UInt8.ofNat (48 + d)] : List UInt8).toArray⟩ : ByteArray) = strOf [48 + d] := str_eq (by rw [List.map_cons, List.map_nil, u8_toNat (by omega)])
 rw [e] at h
 exact h
set_option maxRecDepth 100000 in
set_option maxHeartbeats 1000000 in
theorem ldigits_any (n : Nat) (w : World) (hn : n < 4294967296) : Ct 39 #[.int .u32 n] (.string (strOf (dL n))) w := by
 go_enter Tryz.func39, Tryz.ntmps39
 go_wp2
 go_loopw [0, 3] (fun v s wr => ∃ (m : Nat) (T : ByteArray), v = .int .u32 m ∧ s = .string T ∧ m ≤ n ∧ Hid (∃ X, T = strOf X ∧ X.length ≤ 10 ∧ (m = n ∨ m * 10 ^ X.length ≤ n) ∧ dL n = dL m ++ X) ∧ Hid (Below w.heap.size w wr)) (fun v _ _ => (intOf v).toNat)
 case atStart => exact ⟨n, strOf [], rfl, rfl, Nat.le_refl _, Lib.hid ⟨[], rfl, by simp, .inl rfl, by simp⟩, Lib.hid (Below.refl _ _)⟩
 case round =>
  obtain ⟨m, T, rfl, rfl, hm, HX, B⟩ := hrel
  by_cases h9 : 9 < m
  ·obtain ⟨d, hd⟩ : ∃ d, m % 10 = d := ⟨_, rfl⟩
   obtain ⟨q, hq⟩ : ∃ q, m / 10 = q := ⟨_, rfl⟩
   have hd9 : d < 10 := by omega
   have H2 : Hid (∃ X, strOf [48 + d] ++ T = strOf X ∧ X.length ≤ 10 ∧ (q = n ∨ q * 10 ^ X.length ≤ n) ∧ dL n = dL q ++ X) := Lib.hid (by
    obtain ⟨X, rfl, h1, h2, h3⟩ := HX.out
    have hb : q * 10 ^ (X.length + 1) ≤ n := by
     rcases h2 with rfl | h2
     ·have : X = [] := by
       have h5 := congrArg List.length h3
       rw [List.length_append] at h5
       exact List.eq_nil_of_length_eq_zero (by omega)
      subst this
      simp
      omega
     ·rw [Nat.pow_succ, Nat.mul_comm (10 ^ X.length), ← Nat.mul_assoc]
      exact Nat.le_trans (Nat.mul_le_mul_right _ (by omega)) h2
    refine ⟨(48 + d) :: X, by rw [strOf_append]; rfl, ?_, .inr hb, ?_⟩
    ·have h6 : 10 ^ (X.length + 1) ≤ n := Nat.le_trans (Nat.le_mul_of_pos_left _ (by omega)) hb
     have h7 : 10 ^ (X.length + 1) < 10 ^ 10 := by omega
     have := ten_lt h7
     simp
     omega
    ·rw [h3, dL_big (n := m) (by omega), hq, hd, List.append_assoc, List.singleton_append])
   have g1 : ¬ 9223372036854775807 < (strOf [48 + d]).size + T.size := by
    obtain ⟨X, hX, h1, _⟩ := HX.out
    rw [hX, strOf_size, strOf_size]
    simp
    omega
   have hcv := one_byte wr d hd9
   have t1 : (9 : Int) < (m : Int) := by omega
   have k0 : (m : Int) % 10 = (d : Int) := by omega
   have k1 : (m : Int) / 10 = (q : Int) := by omega
   have b1 : (d : Int) ≤ 9 := by omega
   have b2 : (0 : Int) ≤ (d : Int) := by omega
   have b3 : (q : Int) ≤ 4294967295 := by omega
   have hql : q < m := by omega
   have hqn : q ≤ n := by omega
   obtain ⟨T2, hT2⟩ : ∃ T2, strOf [48 + d] ++ T = T2 := ⟨_, rfl⟩
   rw [hT2] at H2
   have B2 := Lib.hid (alloc_below (.cells #[.int .u8 (48 + (d : Int))] 5) B.out)
   clear hd hq hd9 h9 hm
   go_wp2
   go_roundw
   case rel => exact ⟨q, T2, rfl, rfl, hqn, H2, B2⟩
   case measure => simp [intOf]; omega
  ·have t1 : decide ((9 : Int) < (m : Int)) = false := decide_eq_false (by omega)
   have hcv := one_byte wr m (by omega)
   have b1 : (m : Int) ≤ 9 := by omega
   have H2 : strOf [48 + m] ++ T = strOf (dL n) := by
    obtain ⟨X, rfl, h1, h2, h3⟩ := HX.out
    rw [strOf_append, h3, dL_small (n := m) (by omega)]
   have g1 : ¬ 9223372036854775807 < (strOf [48 + m]).size + T.size := by
    obtain ⟨X, hX, h1, _⟩ := HX.out
    rw [hX, strOf_size, strOf_size]
    simp
    omega
   have B2 := Lib.hid (alloc_below (.cells #[.int .u8 (48 + (m : Int))] 5) B.out)
   clear h9 hm
   go_wp2
   go_ret
   exact ⟨rfl, B2.out⟩

end Go.Proofs.YtfcpkdafkmohkaaGreatDoor
namespace Go.Proofs.YtfcpkdafkmohkaaGreatDoor
open Go.RowKit
theorem decR_le_inf (N : Nat) (e : Int) : decR N e ≤ 9218868437227405312 := Nat.min_le_right _ _
end Go.Proofs.YtfcpkdafkmohkaaGreatDoor
namespace Go.Proofs.YtfcpkdafkmohkaaGreatDoor
open Go.RowKit
def PartG (x m : Nat) (two : Int) : Prop := (x = 0 ∧ m = 0 ∧ two = 0) ∨ (0 < x ∧ PartIs x m two)
def PartsG (x : Nat) (w : World) (e : Ending) (w' : World) : Prop := ∃ m two A n c, e = .returned (.tuple #[.slice A n c, .int .i64 two, .int .i64 0]) ∧ NV w' A n c m ∧ PartG x m two ∧ Below w.heap.size w w'
theorem nv_zero (w : World) : NV w none 0 0 0 := ⟨by rfl, by omega, RW.nil _ _ _⟩
theorem fbad_zero : fbad 0 = false := by decide
theorem pparts_g (x : Nat) (w : World) (hx : x < 9218868437227405312) (hz : TzTab w) : Cp 54 #[.float .f64 x] w (PartsG x w) := by
 rcases Nat.eq_zero_or_pos x with h | h
 ·subst h
  refine (pparts_zero 0 w (by omega) fbad_zero rfl).mono ?_
  rintro e w' ⟨rfl, rfl⟩
  exact ⟨0, 0, none, 0, 0, rfl, nv_zero _, .inl ⟨rfl, rfl, rfl⟩, Below.refl _ _⟩
 ·refine (pparts_pos x w h hx hz).mono ?_
  rintro e w' ⟨m, two, A, n, c, rfl, hv, hp, hb⟩
  exact ⟨m, two, A, n, c, rfl, hv, .inr ⟨h, hp⟩, hb⟩
end Go.Proofs.YtfcpkdafkmohkaaGreatDoor
namespace Go.Proofs.YtfcpkdafkmohkaaGreatDoor
open Go.RowKit
theorem PartG.bd {x m : Nat} {two : Int} (h : PartG x m two) : bln m ≤ 53 ∧ -1074 ≤ two ∧ two ≤ 1023 := by
 rcases h with ⟨rfl, rfl, rfl⟩ | ⟨_, h⟩
 ·rw [bln_zero]
  omega
 ·obtain ⟨q1, q2, q3, q4, q5, q6⟩ := h.pos
  exact ⟨q2, q5, q6⟩
end Go.Proofs.YtfcpkdafkmohkaaGreatDoor
namespace Go.Proofs.YtfcpkdafkmohkaaGreatDoor
open Go.RowKit
theorem bln_succ (a : Nat) : bln (a + 1) ≤ bln a + 1 := by
 rcases Nat.eq_zero_or_pos a with h | h
 ·subst h
  decide
 ·have h1 := bln_shift (k := 1) h
  rw [← h1]
  exact bln_mono (by omega)
end Go.Proofs.YtfcpkdafkmohkaaGreatDoor
namespace Go.Proofs.YtfcpkdafkmohkaaGreatDoor
open Go.RowKit
def posB (x : Nat) : Bool := decide (0 < x) && decide (x < 9218868437227405312)
theorem posB_iff {x : Nat} : posB x = true ↔ 0 < x ∧ x < 9218868437227405312 := by
 unfold posB
 rw [Bool.and_eq_true, decide_eq_true_iff, decide_eq_true_iff]
theorem ord_gt0 {x : Nat} (hx : x < 18446744073709551616) : (FloatKind.f64.format.order x 0 == some .gt) = decide (0 < x ∧ x ≤ 9218868437227405312) := by
 rcases Nat.lt_or_ge 9218868437227405312 (rung x) with h | h
 ·have h1 : ¬ x ≤ 9218868437227405312 := fun k => by rw [(frank_pos k).2] at h; omega
  rw [show FloatKind.f64.format.order x 0 = Ieee.double.order x 0 from rfl, order_nan (.inl h), decide_eq_false (fun k => h1 k.2)]
  rfl
 ·obtain ⟨a1, a2⟩ := frank_pos (x := 0) (by omega)
  rw [show FloatKind.f64.format.order x 0 = Ieee.double.order x 0 from rfl, order_eq h (by omega), a1, Bool.eq_iff_iff, beq_iff_eq, Option.some.injEq, Int.compare_eq_gt, decide_eq_true_iff]
  unfold frank fneg
  unfold rung at h ⊢
  rcases (show x / 9223372036854775808 % 2 = 0 ∨ x / 9223372036854775808 % 2 = 1 by omega) with k | k
  ·rw [k]
   simp
   omega
  ·rw [k]
   simp
   omega
set_option maxRecDepth 100000 in
set_option maxHeartbeats 1000000 in
theorem tShortest_bad0 (x : Nat) (w : World) (t0 : (FloatKind.f64.format.order x 0 == some .gt) = false) :
  Cq 12 #[.float .f64 x] (.tuple #[.string ⟨#[]⟩, .int .i64 0, .int .i64 1]) w := by
 go_enter Tryz.func12, Tryz.ntmps12
 go_wp2
 (try simp only [Exit.inBlock, Exit.then])
 refine bodyPost_ret (results_tmp3 rfl _ _ _) rfl ?_
 exact ⟨rfl, rfl⟩
set_option maxRecDepth 100000 in
set_option maxHeartbeats 1000000 in
theorem tShortest_bad1 (x : Nat) (w : World) (t0 : (FloatKind.f64.format.order x 0 == some .gt) = true)
  (CI : Hid (∀ W, Cq 36 #[.float .f64 x, .int .i64 1] (.bool true) W)) :
  Cq 12 #[.float .f64 x] (.tuple #[.string ⟨#[]⟩, .int .i64 0, .int .i64 1]) w := by
 go_enter Tryz.func12, Tryz.ntmps12
 go_wp2_with fail
 refine (CI.out _).mono ?_
 rintro e w' ⟨rfl, rfl⟩
 go_wp2
 (try simp only [Exit.inBlock, Exit.then])
 refine bodyPost_ret (results_tmp3 rfl _ _ _) rfl ?_
 exact ⟨rfl, rfl⟩
set_option maxRecDepth 100000 in
set_option maxHeartbeats 1000000 in
theorem tShortest_ok (x : Nat) (N : Int) (S F : ByteArray) (w : World) (t0 : (FloatKind.f64.format.order x 0 == some .gt) = true)
  (CI : Hid (∀ W, Cq 36 #[.float .f64 x, .int .i64 1] (.bool false) W))
  (CS : Hid (∀ W, W = w → Ct 40 #[.float .f64 x] (.tuple #[.string S, .int .i64 N]) W))
  (CW : Hid (∀ W, Ct 41 #[.string S] (.string F) W)) :
  Ct 12 #[.float .f64 x] (.tuple #[.string F, .int .i64 N, .int .i64 0]) w := by
 go_enter Tryz.func12, Tryz.ntmps12
 go_wp2_with fail
 refine (CI.out _).mono ?_
 rintro e w' ⟨rfl, rfl⟩
 go_wp2_with fail
 refine (CS.out _ rfl).mono ?_
 rintro e w1 ⟨rfl, b1⟩
 have B1 := Lib.hid b1
 clear b1
 go_wp2_with fail
 refine (CW.out _).mono ?_
 rintro e w2 ⟨rfl, b2⟩
 have B2 := Lib.hid (below_le B1.out b2)
 clear b2
 go_wp2
 (try simp only [Exit.inBlock, Exit.then])
 refine bodyPost_ret (results_tmp3 rfl _ _ _) rfl ?_
 exact ⟨rfl, B2.out⟩
def ShQ (x : Nat) (S : ByteArray) (N K : Int) : Prop := (posB x = false ∧ S = ⟨#[]⟩ ∧ N = 0 ∧ K = 1) ∨ (posB x = true ∧ ∃ D, SQ x D N ∧ S = wdS D ∧ K = 0)
theorem shq_ex (x : Nat) : ∃ S N K, ShQ x S N K := by
 cases h : posB x
 ·exact ⟨_, _, _, .inl ⟨h, rfl, rfl, rfl⟩⟩
 ·obtain ⟨h0, h1⟩ := posB_iff.1 h
  obtain ⟨D, N, hq⟩ := sq_ex h0 h1
  exact ⟨_, _, _, .inr ⟨h, D, hq, rfl, rfl⟩⟩
theorem fin_pos {x : Nat} (h1 : x < 9218868437227405312) : finf x = false ∧ fnan x = false ∧ fneg x = false := by
 refine ⟨?_, ?_, ?_⟩
 ·unfold finf rung
  exact decide_eq_false (by omega)
 ·unfold fnan rung
  exact decide_eq_false (by omega)
 ·unfold fneg
  rw [show x / 9223372036854775808 % 2 = 0 by omega]
  rfl
theorem tShortest_any {x : Nat} {S : ByteArray} {N K : Int} {w : World} (hx : x < 18446744073709551616) (ht : Tab10 w) (hz : TzTab w) (h : ShQ x S N K) :
  Ct 12 #[.float .f64 x] (.tuple #[.string S, .int .i64 N, .int .i64 K]) w := by
 have t0 := ord_gt0 hx
 have CI := fun W => isInf1_any x W
 rcases h with ⟨hp, rfl, rfl, rfl⟩ | ⟨hp, D, hq, rfl, rfl⟩
 ·have hp' : ¬ (0 < x ∧ x < 9218868437227405312) := fun k => by rw [posB_iff.2 k] at hp; cases hp
  by_cases h1 : 0 < x ∧ x ≤ 9218868437227405312
  ·have h2 : x = 9218868437227405312 := by omega
   subst h2
   rw [decide_eq_true h1] at t0
   refine (tShortest_bad1 _ w t0 (Lib.hid fun W => ?_)).mono ?_
   ·refine (CI W).mono ?_
    rintro e w' ⟨rfl, rfl⟩
    exact ⟨by rw [show (finf 9218868437227405312 && !fneg 9218868437227405312) = true by decide +kernel], rfl⟩
   ·rintro e w' ⟨rfl, rfl⟩
    exact ⟨rfl, Below.refl _ _⟩
  ·rw [decide_eq_false h1] at t0
   refine (tShortest_bad0 x w t0).mono ?_
   rintro e w' ⟨rfl, rfl⟩
   exact ⟨rfl, Below.refl _ _⟩
 ·obtain ⟨h0, h1⟩ := posB_iff.1 hp
  rw [decide_eq_true ⟨h0, by omega⟩] at t0
  rw [(fin_pos h1).1, Bool.false_and] at CI
  obtain ⟨b1, b2, b3, b4, b5⟩ := hq.bd h0 h1
  exact tShortest_ok x N (strOf D) (wdS D) w t0 (Lib.hid CI) (Lib.hid fun W hW => by subst hW; exact tshortest_is h0 h1 ht hz hq) (Lib.hid fun W => twide_any D W b5 (by omega))
end Go.Proofs.YtfcpkdafkmohkaaGreatDoor
namespace Go.Proofs.YtfcpkdafkmohkaaGreatDoor
open Go.RowKit
theorem ord_same {x : Nat} (h : fnan x = false) : (FloatKind.f64.format.order x x == some .eq) = true := by
 have h1 := of_decide_eq_false h
 rw [show FloatKind.f64.format.order x x = Ieee.double.order x x from rfl, order_eq (by omega) (by omega)]
 have : compare (frank x) (frank x) = .eq := Int.compare_eq_eq.2 rfl
 rw [this]
 rfl
end Go.Proofs.YtfcpkdafkmohkaaGreatDoor
namespace Go.Proofs.YtfcpkdafkmohkaaGreatDoor
open Go.RowKit
def rhu (u v : Nat) : Nat := u / v + (if v ≤ 2 * (u % v) then 1 else 0)
def rhN (x : Nat) (p : Int) : Nat := rhu (vU x p) (vV p)
theorem nshr1 {w : World} {A : Option Addr} {n c a : Nat} (hA : NV w A n c a) (ha : bln a ≤ 30000) :
  Cp 125 #[.slice A n c, .int .i64 1] w fun e w' => ∃ A2 n2 c2 b, e = .returned (.tuple #[.slice A2 n2 c2, .bool b]) ∧ NV w' A2 n2 c2 (a / 2) ∧ Below w.heap.size w w' := by
 have h1 := small_len ha
 rw [hA.len] at h1
 have key : Cp 125 #[.slice A n c, .int .i64 ((1 : Nat) : Int)] w (ShrQ (val (wds a)) 1 w) := by
  by_cases hf : btl (nrm (wds a)) ≤ 1
  ·exact pshr_far A n c 1 (wds a) w hA.len hA.cap (by omega) hA.row (by omega) hf
  ·exact pshr_mid A n c 1 0 1 (wds a) w hA.len hA.cap (by omega) hA.row (by omega) (by omega) (by omega) (by omega)
 rw [wds_val] at key
 refine key.mono ?_
 rintro e w' ⟨A2, n2, c2, rfl, g1, g2, g3, g4⟩
 rw [Nat.pow_one] at g1 g3
 exact ⟨A2, n2, c2, _, rfl, ⟨g1.symm, g2, g3⟩, g4⟩
theorem ntext {A : Option Addr} {n c v : Nat} {w : World} (hA : NV w A n c v) (hv : bln v ≤ 20000) : Ct 111 #[.slice A n c, .int .i64 10] (.tuple #[.string (strOf (dL v)), .int .i64 0]) w := by
 have h1 := small_len (v := v) (by omega)
 have C := text_any A n c 10 (wds v) w hA.len hA.cap (by have := hA.len; omega) hA.row
 rw [wds_val] at C
 refine C.mono ?_
 rintro e w' ⟨t, k, rfl, ht, hb⟩
 have hbad : ¬ badR 10 := by unfold badR; omega
 rcases ht with ⟨h, _⟩ | ⟨_, h, _⟩ | ⟨_, _, h, rfl⟩
 ·exact absurd h hbad
 ·rw [lng_bln (by omega)] at h
  cases h
 ·rw [text_str h]
  exact ⟨rfl, hb⟩
set_option maxRecDepth 100000 in
set_option maxHeartbeats 1000000 in
theorem tnear_walk {A : Option Addr} {n c m h : Nat} {two two1 ten : Int} {S : ByteArray} {w : World} (hA : NV w A n c m) (k1 : IntKind.i64.wrap (two + 1) = two1)
  (C1 : Hid (∀ W, NV W A n c m → Cp 123 #[.slice A n c, .int .i64 two1, .int .i64 ten] W fun e w' => ∃ A3 n3 c3 b, e = .returned (.tuple #[.slice A3 n3 c3, .bool b]) ∧ NV w' A3 n3 c3 h ∧ Below W.heap.size W w'))
  (C3 : Hid (∀ W A n c C m d, NV W A n c h → NV W C m d 1 → Cp 124 #[.slice A n c, .slice C m d] W (NOk (h + 1) W)))
  (C4 : Hid (∀ W A n c, NV W A n c (h + 1) → Cp 125 #[.slice A n c, .int .i64 1] W fun e w' => ∃ A2 n2 c2 b, e = .returned (.tuple #[.slice A2 n2 c2, .bool b]) ∧ NV w' A2 n2 c2 ((h + 1) / 2) ∧ Below W.heap.size W w'))
  (C5 : Hid (∀ W A n c, NV W A n c ((h + 1) / 2) → Ct 111 #[.slice A n c, .int .i64 10] (.tuple #[.string S, .int .i64 0]) W)) :
  Ct 56 #[.slice A n c, .int .i64 two, .int .i64 ten] (.string S) w := by
 have C2 := Lib.hid (fun W => nof 1 (by omega) W)
 have HA := Lib.hid hA
 clear hA
 go_enter Tryz.func56, Tryz.ntmps56
 go_wp2_with fail
 refine (C1.out _ HA.out).mono ?_
 rintro e w1 ⟨A1, n1, c1, b, rfl, g1, b1⟩
 have G1 := Lib.hid g1
 have B1 := Lib.hid b1
 clear g1 b1
 go_wp2_with fail
 refine (C2.out _).mono ?_
 rintro e w2 ⟨A2, n2, c2, rfl, g2, b2⟩
 have G2 := Lib.hid g2
 have G1 := Lib.hid (G1.out.step b2)
 have B2 := Lib.hid (below_le B1.out b2)
 clear g2 b2
 go_wp2_with fail
 refine (C3.out _ _ _ _ _ _ _ G1.out G2.out).mono ?_
 rintro e w3 ⟨A3, n3, c3, rfl, g3, b3⟩
 have G3 := Lib.hid g3
 have B3 := Lib.hid (below_le B2.out b3)
 clear g3 b3
 go_wp2_with fail
 refine (C4.out _ _ _ _ G3.out).mono ?_
 rintro e w4 ⟨A4, n4, c4, b4', rfl, g4, b4⟩
 have G4 := Lib.hid g4
 have B4 := Lib.hid (below_le B3.out b4)
 clear g4 b4
 go_wp2_with fail
 refine (C5.out _ _ _ _ G4.out).mono ?_
 rintro e w5 ⟨rfl, b5⟩
 have B5 := Lib.hid (below_le B4.out b5)
 clear b5
 go_wp2
 go_ret
 exact ⟨rfl, B5.out⟩
theorem near_val {x m : Nat} {two : Int} (h : PartG x m two) (ten : Int) : (scA m (two + 1) ten / scB (two + 1) ten + 1) / 2 = rhN x ten := by
 have key : scA m (two + 1) ten * vV ten = 2 * vU x ten * scB (two + 1) ten := by
  rcases h with ⟨rfl, rfl, rfl⟩ | ⟨_, h⟩
  ·unfold scA vU
   rw [fmag_zero]
   simp
  ·obtain ⟨K, hK, hb⟩ := big_K
   obtain ⟨t, ht, hm⟩ := h.mag hK
   have hx : m * 2 ^ (t + 1) = 2 * fmag x * 2 ^ 0 := by
    rw [hm, Nat.pow_succ, Nat.pow_zero]
    grind
   have hc := sc_cross (M := K) (two := two + 1) (ten := ten) (x := t + 1) (y := 0) (by omega) hx
   unfold vV vU
   rw [hb, hc]
   grind
 have e := (quot_cross (scB_pos _ _) (vV_pos ten) key).1
 rw [e, half_up (vV_pos ten)]
 rfl
theorem scA_bln {x m : Nat} {two ten : Int} (h : PartG x m two) (h1 : -1000 ≤ ten) (h2 : ten ≤ 1000) : bln (scA m (two + 1) ten / scB (two + 1) ten) ≤ 8000 := by
 obtain ⟨b1, b2, b3⟩ := h.bd
 refine Nat.le_trans (bln_mono (Nat.div_le_self _ _)) ?_
 unfold scA
 have e1 := bln_mul (m * 5 ^ ten.toNat) (2 ^ (two + 1 + ten).toNat)
 have e2 := bln_mul m (5 ^ ten.toNat)
 have e3 := bln_five ten.toNat
 have e4 := bln_pow2 (two + 1 + ten).toNat
 omega
theorem bln_half {a : Nat} : bln (a / 2) ≤ bln a := bln_mono (Nat.div_le_self _ _)
theorem tnear_any {A : Option Addr} {n c x m : Nat} {two ten : Int} {w : World} (hA : NV w A n c m) (hp : PartG x m two) (h1 : -1000 ≤ ten) (h2 : ten ≤ 1000) :
  Ct 56 #[.slice A n c, .int .i64 two, .int .i64 ten] (.string (strOf (dL (rhN x ten)))) w := by
 obtain ⟨b1, b2, b3⟩ := hp.bd
 have hv := near_val hp ten
 have hb := scA_bln hp h1 h2
 have hC : Hid (∀ W, NV W A n c m → Cp 123 #[.slice A n c, .int .i64 (two + 1), .int .i64 ten] W fun e w' => ∃ A3 n3 c3 b, e = .returned (.tuple #[.slice A3 n3 c3, .bool b]) ∧ NV w' A3 n3 c3 (scA m (two + 1) ten / scB (two + 1) ten) ∧ Below W.heap.size W w') := Lib.hid (fun W g => (tscaled_any (two + 1) ten g (by omega) h1 h2 (by omega) (by omega)).mono (by
  rintro e w' ⟨A3, n3, c3, rfl, hv, hb⟩
  exact ⟨A3, n3, c3, _, rfl, hv, hb⟩))
 obtain ⟨h, hh⟩ : ∃ h, scA m (two + 1) ten / scB (two + 1) ten = h := ⟨_, rfl⟩
 rw [hh] at hv hb hC
 have hs := bln_succ h
 rw [← hv]
 exact tnear_walk hA (IntWalk.i64_in _ (by omega)) hC (Lib.hid fun W A n c C m d g1 g2 => nadd g1 g2 (by omega)) (Lib.hid fun W A n c g => nshr1 g (by omega)) (Lib.hid fun W A n c g => ntext g (by have := bln_half (a := h + 1); omega))
def LdQ (x count : Nat) (D : List Nat) (E : Int) : Prop :=
 (x = 0 ∧ D = List.replicate count 48 ∧ E = 0) ∨ (0 < x ∧ ∃ n : Int, PointAt (fmag x) big n ∧ -345 ≤ n ∧ n ≤ 335 ∧ D = (dL (rhN x (count - n))).take count ∧ E = n - 1 + (dL (rhN x (count - n))).length - count)
theorem ldq_ex {x count : Nat} (hx : x < 9218868437227405312) : ∃ D E, LdQ x count D E := by
 rcases Nat.eq_zero_or_pos x with h | h
 ·exact ⟨_, _, .inl ⟨h, rfl, rfl⟩⟩
 ·obtain ⟨m, two, hp⟩ := part_ex h hx
  obtain ⟨n, h1, h2, h3⟩ := point_ex hp
  exact ⟨_, _, .inr ⟨h, n, h1, h2, h3, rfl, rfl⟩⟩
theorem rhN_at {x : Nat} {n : Int} (hn : PointAt (fmag x) big n) {k : Nat} (hk : 1 ≤ k) : 10 ^ (k - 1) ≤ rhN x (k - n) ∧ rhN x (k - n) ≤ 10 ^ k := by
 have h1 := cq_lo hn hk
 have h2 := cq_hi (k := k) hn
 unfold rhN rhu
 unfold cq at h1 h2
 split <;> omega
theorem rhN_cases (x k : Nat) (n : Int) : rhN x (k - n) = cq x n k ∨ rhN x (k - n) = cq x n k + 1 := by
 unfold rhN rhu cq
 split
 ·exact .inr rfl
 ·exact .inl rfl
theorem LdQ.len {x count : Nat} {D : List Nat} {E : Int} (h : LdQ x count D E) (hc : 1 ≤ count) : D.length = count ∧ (∀ c ∈ D, dg10 c = true) ∧ -346 ≤ E ∧ E ≤ 335 := by
 rcases h with ⟨_, rfl, rfl⟩ | ⟨h0, n, h1, h2, h3, rfl, rfl⟩
 ·refine ⟨List.length_replicate, ?_, by omega, by omega⟩
  intro c hc
  rw [List.mem_replicate] at hc
  rw [hc.2]
  decide
 ·obtain ⟨a, b⟩ := rhN_at h1 hc
  have hl : count ≤ (dL (rhN x (count - n))).length ∧ (dL (rhN x (count - n))).length ≤ count + 1 := by
   rcases Nat.lt_or_ge (rhN x (count - n)) (10 ^ count) with h | h
   ·rw [dL_len (k := count - 1) a (by rw [show count - 1 + 1 = count by omega]; exact h)]
    omega
   ·rw [dL_len (k := count) h (by rw [Nat.pow_succ]; have := ten_pos count; omega)]
    omega
  refine ⟨by rw [List.length_take]; omega, fun c hc => dL_dig _ c (List.mem_of_mem_take hc), by omega, by omega⟩
set_option maxRecDepth 100000 in
set_option maxHeartbeats 1000000 in
theorem tlead_zero {x count : Nat} {S : ByteArray} {w : World}
  (C1 : Hid (∀ W, W = w → Cp 54 #[.float .f64 x] W fun e w' => ∃ A c, e = .returned (.tuple #[.slice A 0 c, .int .i64 0, .int .i64 0]) ∧ Below W.heap.size W w'))
  (C2 : Hid (∀ W, Ct 106 #[.string ⟨#[48]⟩, .int .i64 count] (.string S) W)) :
  Ct 60 #[.float .f64 x, .int .i64 count] (.tuple #[.string S, .int .i64 0]) w := by
 go_enter Tryz.func60, Tryz.ntmps60
 go_wp2_with fail
 refine (C1.out _ rfl).mono ?_
 rintro e w1 ⟨A1, c1, rfl, b1⟩
 have B1 := Lib.hid b1
 clear b1
 go_wp2_with fail
 refine (C2.out _).mono ?_
 rintro e w2 ⟨rfl, b2⟩
 have B2 := Lib.hid (below_le B1.out b2)
 clear b2
 go_wp2
 go_ret2
 exact ⟨rfl, B2.out⟩
set_option maxRecDepth 100000 in
set_option maxHeartbeats 1000000 in
theorem tlead_pos {x count L : Nat} {n p : Int} {S T : ByteArray} {w : World} (b1 : -400 ≤ n) (b2 : n ≤ 400) (hc0 : 1 ≤ count) (hc : count ≤ 100) (hp : (count : Int) - n = p) (hL : S.size = L) (hcL : count ≤ L) (hL2 : L ≤ 1000) (hT : S.extract 0 count = T)
  (C1 : Hid (∀ W, W = w → Cp 54 #[.float .f64 x] W fun e w' => ∃ A, ∃ k : Nat, ∃ c m two, e = .returned (.tuple #[.slice A k c, .int .i64 two, .int .i64 0]) ∧ 0 < k ∧ NV w' A k c m ∧ PartIs x m two ∧ Below W.heap.size W w'))
  (C2 : Hid (∀ W A (k : Nat) c m two, NV W A k c m → PartIs x m two → Ct 94 #[.slice A k c, .int .i64 two] (.int .i64 n) W))
  (C3 : Hid (∀ W A (k : Nat) c m two, NV W A k c m → PartIs x m two → Ct 56 #[.slice A k c, .int .i64 two, .int .i64 p] (.string S) W)) :
  Ct 60 #[.float .f64 x, .int .i64 count] (.tuple #[.string T, .int .i64 (n - 1 + L - count)]) w := by
 have e1 : (1 : Int) ≤ count := by omega
 have e2 : (count : Int) ≤ 100 := by omega
 have e3 : (count : Int) ≤ L := by omega
 have e4 : (L : Int) ≤ 1000 := by omega
 have HL := Lib.hid hL
 have HT := Lib.hid hT
 clear hL hT hcL hL2 hc hc0
 go_enter Tryz.func60, Tryz.ntmps60
 go_wp2_with fail
 refine (C1.out _ rfl).mono ?_
 rintro e w1 ⟨A1, k, c1, m, two, rfl, hk, g1, hp', b1'⟩
 have G1 := Lib.hid g1
 have HP := Lib.hid hp'
 have B1 := Lib.hid b1'
 have k0 : ¬ ((k : Int) = 0) := by omega
 have k1 : ((k : Int) == 0) = false := by rw [beq_eq_false_iff_ne]; exact k0
 clear g1 hp' b1' hk
 go_wp2_with fail
 refine (C2.out _ _ _ _ _ _ G1.out HP.out).mono ?_
 rintro e w2 ⟨rfl, b2'⟩
 have G1 := Lib.hid (G1.out.step b2')
 have B2 := Lib.hid (below_le B1.out b2')
 clear b2'
 go_wp2_with fail
 refine (C3.out _ _ _ _ _ _ G1.out HP.out).mono ?_
 rintro e w3 ⟨rfl, b3'⟩
 have B3 := Lib.hid (below_le B2.out b3')
 clear b3'
 have hL := HL.out
 go_wp2
 go_ret2
 exact ⟨by rw [HT.out]; rfl, B3.out⟩

end Go.Proofs.YtfcpkdafkmohkaaGreatDoor
namespace Go.Proofs.YtfcpkdafkmohkaaGreatDoor
open Go.RowKit
theorem tleading_any {x count : Nat} {D : List Nat} {E : Int} {w : World} (hx : x < 9218868437227405312) (hz : TzTab w) (h1 : 1 ≤ count) (h2 : count ≤ 50) (h : LdQ x count D E) :
  Ct 60 #[.float .f64 x, .int .i64 count] (.tuple #[.string (strOf D), .int .i64 E]) w := by
 rcases h with ⟨rfl, rfl, rfl⟩ | ⟨h0, n, g1, g2, g3, rfl, rfl⟩
 ·refine tlead_zero (Lib.hid fun W hW => ?_) (Lib.hid fun W => trepeat_any count W (by omega))
  subst hW
  refine (pparts_g 0 W (by omega) hz).mono ?_
  rintro e w' ⟨m, two, A, k, c, rfl, gA, gp, gb⟩
  rcases gp with ⟨_, rfl, rfl⟩ | ⟨g, _⟩
  ·have : k = 0 := by
    rw [← gA.len]
    rfl
   subst this
   exact ⟨A, c, rfl, gb⟩
  ·omega
 ·obtain ⟨a, b⟩ := rhN_at g1 h1
  have hl : count ≤ (dL (rhN x (count - n))).length ∧ (dL (rhN x (count - n))).length ≤ count + 1 := by
   rcases Nat.lt_or_ge (rhN x (count - n)) (10 ^ count) with h | h
   ·rw [dL_len (k := count - 1) a (by rw [show count - 1 + 1 = count by omega]; exact h)]
    omega
   ·rw [dL_len (k := count) h (by rw [Nat.pow_succ]; have := ten_pos count; omega)]
    omega
  have hT : (strOf (dL (rhN x (count - n)))).extract 0 count = strOf ((dL (rhN x (count - n))).take count) := by
   rw [ext_take, bl_strOf (fun c hc => by have := dg10_iff.1 (dL_dig _ c hc); omega)]
  refine tlead_pos (L := (dL (rhN x (count - n))).length) (by omega) (by omega) h1 (by omega) rfl (strOf_size _) hl.1 (by omega) hT (Lib.hid fun W hW => ?_)
   (Lib.hid fun W A k c m two hA hp => tpoint_is hA hp g1) (Lib.hid fun W A k c m two hA hp => tnear_any hA (.inr ⟨h0, hp⟩) (by omega) (by omega))
  subst hW
  refine (pparts_pos x W h0 hx hz).mono ?_
  rintro e w' ⟨m, two, A, k, c, rfl, gA, gp, gb⟩
  refine ⟨A, k, c, m, two, rfl, ?_, gA, gp, gb⟩
  rw [← gA.len]
  refine List.length_pos_iff.2 fun e0 => ?_
  have := wds_val m
  rw [e0] at this
  have h3 : val [] = 0 := rfl
  have := gp.pos.1
  omega

end Go.Proofs.YtfcpkdafkmohkaaGreatDoor
namespace Go.Proofs.YtfcpkdafkmohkaaGreatDoor
open Go.RowKit
theorem kept_cell {W w' : World} (h : Below W.heap.size W w') (a : Addr) (v : Value) (hc : W.cell? a = some v) : w'.cell? a = some v := by
 rw [← hc]
 refine h.cell ?_
 rcases Nat.lt_or_ge a.block W.heap.size with h' | h'
 ·exact h'
 ·simp [World.cell?, Array.getElem?_eq_none h'] at hc
set_option maxRecDepth 100000 in
set_option maxHeartbeats 1000000 in
theorem tsigned_cap {T : Nat → List Nat → Prop} {x : Nat} {L : List Nat} {w : World} (f : FuncId) (pb : Addr) (hx : x < 18446744073709551616)
  (he : ∀ args (W : World), (callFunc f args).run Tryz.prog W = .ok (.enter f args) W)
  (hT : ∀ r l, r < 9218868437227405312 → T r l → (∀ c ∈ l, c < 256) ∧ l.length ≤ 99000 ∧ Ct f #[.float .f64 r, .pointer (some pb)] (.string (strOf l)) w)
  (h : SgQ T x L) : Ct 43 #[.float .f64 x, .func (Fn.func f) #[] #[.pointer (some pb)]] (.string (wdS L)) w := by
 have t0 := ord_neg x
 have CN := fun W => isNaN_any x W
 have CI := fun W => isInf0_any x W hx
 rcases h with ⟨h1, rfl⟩ | ⟨h1, h2, rfl⟩ | ⟨h1, h2, l, h3, rfl⟩
 ·rw [h1] at t0 CN
  exact tsigned_10nan x f pb _ w t0 (Lib.hid CN) (Lib.hid fun W => twide_any [78, 97, 78] W (by simp) (by simp))
 ·rw [h1] at t0 CN
  rw [h2] at CI
  unfold sgx
  cases hn : ngB x
  ·rw [hn] at t0
   exact tsigned_10inf x f pb _ w t0 (Lib.hid CN) (Lib.hid CI) (Lib.hid fun W => twide_any _ W (by decide) (by decide))
  ·rw [hn] at t0
   exact tsigned_11inf x f pb _ w t0 (Lib.hid CN) (Lib.hid CI) (Lib.hid fun W => twide_any _ W (by decide) (by decide))
 ·rw [h1] at t0 CN
  rw [h2] at CI
  obtain ⟨l1, l2, hc⟩ := hT _ l (fin_rung h1 h2) h3
  have CA := fun W => abs_any x W hx
  have CT : Hid (∀ W, W = w → Ct f #[.float .f64 (rung x), .pointer (some pb)] (.string (strOf l)) W) := Lib.hid (fun W hW => by
   subst hW
   exact hc)
  unfold sgx
  cases hn : ngB x
  ·rw [hn] at t0
   refine tsigned_10fin x f pb (strOf l) (strOf l) (rung x) _ w t0 (Lib.hid CN) (Lib.hid CI) (Lib.hid CA) he CT (Lib.hid (by rw [strOf_size]; omega)) ?_ (Lib.hid fun W => twide_any _ W l1 (by omega))
   rw [show (⟨#[]⟩ : ByteArray) = strOf [] from rfl, strOf_append]
   rfl
  ·rw [hn] at t0
   refine tsigned_11fin x f pb (strOf l) (strOf ([45] ++ l)) (rung x) _ w t0 (Lib.hid CN) (Lib.hid CI) (Lib.hid CA) he CT (Lib.hid (by rw [strOf_size]; omega)) ?_ (Lib.hid fun W => twide_any _ W ?_ ?_)
   ·rw [show (⟨#[45]⟩ : ByteArray) = strOf [45] from rfl, strOf_append]
   ·intro c hc
    rw [List.mem_append, List.mem_singleton] at hc
    rcases hc with rfl | hc
    ·omega
    ·exact l1 c hc
   ·rw [List.length_append, List.length_singleton]
    omega
end Go.Proofs.YtfcpkdafkmohkaaGreatDoor
namespace Go.Proofs.YtfcpkdafkmohkaaGreatDoor
open Go.RowKit
def PrP (k r : Nat) (l : List Nat) : Prop := ∃ D E, LdQ r k D E ∧ l = if E < -6 ∨ (k : Int) ≤ E then scL D E else ptL D ((k : Int) - 1 - E).toNat
set_option maxRecDepth 100000 in
set_option maxHeartbeats 1000000 in
theorem tprec_low (x k : Nat) (E : Int) (pb : Addr) (S F : ByteArray) (w : World) (hp : w.cell? pb = some (.int .i64 k)) (hE : E < -6)
  (C1 : Hid (∀ W, W = w → Cp 60 #[.float .f64 x, .int .i64 k] W fun e w' => e = .returned (.tuple #[.string S, .int .i64 E]) ∧ Below W.heap.size W w' ∧ W.cell? pb = w'.cell? pb))
  (C2 : Hid (∀ W, Below w.heap.size w W → Ct 59 #[.string S, .int .i64 E] (.string F) W)) :
  Ct 64 #[.float .f64 x, .pointer (some pb)] (.string F) w := by
 go_enter Tryz.func64, Tryz.ntmps64
 go_wp2_with fail
 refine (C1.out _ rfl).mono ?_
 rintro e w1 ⟨rfl, b1, hc⟩
 have hp1 := hc.symm.trans hp
 have B1 := Lib.hid b1
 clear b1 hc hp
 go_wp2_with fail
 refine (C2.out _ B1.out).mono ?_
 rintro e w2 ⟨rfl, b2⟩
 have B2 := Lib.hid (below_le B1.out b2)
 clear b2
 go_wp2
 go_ret
 exact ⟨rfl, B2.out⟩
set_option maxRecDepth 100000 in
set_option maxHeartbeats 1000000 in
theorem tprec_high (x k : Nat) (E : Int) (pb : Addr) (S F : ByteArray) (w : World) (hp : w.cell? pb = some (.int .i64 k)) (hE : ¬ E < -6) (hE2 : (k : Int) ≤ E)
  (C1 : Hid (∀ W, W = w → Cp 60 #[.float .f64 x, .int .i64 k] W fun e w' => e = .returned (.tuple #[.string S, .int .i64 E]) ∧ Below W.heap.size W w' ∧ W.cell? pb = w'.cell? pb))
  (C2 : Hid (∀ W, Below w.heap.size w W → Ct 59 #[.string S, .int .i64 E] (.string F) W)) :
  Ct 64 #[.float .f64 x, .pointer (some pb)] (.string F) w := by
 go_enter Tryz.func64, Tryz.ntmps64
 go_wp2_with fail
 refine (C1.out _ rfl).mono ?_
 rintro e w1 ⟨rfl, b1, hc⟩
 have hp1 := hc.symm.trans hp
 have B1 := Lib.hid b1
 clear b1 hc hp
 go_wp2_with fail
 refine (C2.out _ B1.out).mono ?_
 rintro e w2 ⟨rfl, b2⟩
 have B2 := Lib.hid (below_le B1.out b2)
 clear b2
 go_wp2
 go_ret
 exact ⟨rfl, B2.out⟩
set_option maxRecDepth 100000 in
set_option maxHeartbeats 1000000 in
theorem tprec_mid (x k : Nat) (E j : Int) (pb : Addr) (S F : ByteArray) (w : World) (hp : w.cell? pb = some (.int .i64 k)) (hk : k ≤ 21) (hE : ¬ E < -6) (hE2 : ¬ (k : Int) ≤ E) (hj : (k : Int) - 1 - E = j)
  (C1 : Hid (∀ W, W = w → Cp 60 #[.float .f64 x, .int .i64 k] W fun e w' => e = .returned (.tuple #[.string S, .int .i64 E]) ∧ Below W.heap.size W w' ∧ W.cell? pb = w'.cell? pb))
  (C2 : Hid (∀ W, Below w.heap.size w W → Ct 55 #[.string S, .int .i64 j] (.string F) W)) :
  Ct 64 #[.float .f64 x, .pointer (some pb)] (.string F) w := by
 have k2 : (k : Int) ≤ 21 := by omega
 go_enter Tryz.func64, Tryz.ntmps64
 go_wp2_with fail
 refine (C1.out _ rfl).mono ?_
 rintro e w1 ⟨rfl, b1, hc⟩
 have hp1 := hc.symm.trans hp
 have B1 := Lib.hid b1
 clear b1 hc hp
 go_wp2_with fail
 refine (C2.out _ B1.out).mono ?_
 rintro e w2 ⟨rfl, b2⟩
 have B2 := Lib.hid (below_le B1.out b2)
 clear b2
 go_wp2
 go_ret
 exact ⟨rfl, B2.out⟩
set_option maxRecDepth 100000 in
set_option maxHeartbeats 1000000 in
theorem tPrecision_bad (x : Nat) (d : Int) (w : World) (hd : d < 1 ∨ 21 < d) :
  Ct 23 #[.float .f64 x, .int .i64 d] (.tuple #[.string ⟨#[]⟩, .int .i64 1]) w := by
 rcases (show d < 1 ∨ (¬ d < 1 ∧ 21 < d) by omega) with h1 | ⟨h1, h2⟩
 all_goals
  go_enter Tryz.func23, Tryz.ntmps23
  go_wp2
  go_ret2
  exact ⟨rfl, (Below.refl _ _).alloc (Nat.le_refl _) _⟩
set_option maxRecDepth 100000 in
set_option maxHeartbeats 1000000 in
theorem tPrecision_ok (x : Nat) (d : Int) (F : ByteArray) (w : World) (h1 : ¬ d < 1) (h2 : ¬ 21 < d)
  (CS : Hid (∀ W pb, Below w.heap.size w W → W.cell? pb = some (.int .i64 d) → Ct 43 #[.float .f64 x, .func (Fn.func 64) #[] #[.pointer (some pb)]] (.string F) W)) :
  Ct 23 #[.float .f64 x, .int .i64 d] (.tuple #[.string F, .int .i64 0]) w := by
 have hmf : ∀ (fn : Fn) (first cap : Array Value) (w : World), (Instr.makeFunc fn first cap).run Tryz.prog w = .ok (.func fn first cap) w := fun _ _ _ _ => rfl
 have B0 := Lib.hid ((Below.refl w.heap.size w).alloc (Nat.le_refl _) (.cells #[.int .i64 d] 3))
 have hc : (w.alloc (.cells #[.int .i64 d] 3)).cell? ⟨w.heap.size, 0, none⟩ = some (.int .i64 d) := by rw [World.cell?_alloc_new]; rfl
 have HC := Lib.hid hc
 clear hc
 go_enter Tryz.func23, Tryz.ntmps23
 go_wp2_with fail
 refine (CS.out _ _ B0.out HC.out).mono ?_
 rintro e w2 ⟨rfl, b2⟩
 have B2 := Lib.hid (below_le B0.out b2)
 clear b2
 go_wp2
 go_ret2
 exact ⟨rfl, B2.out⟩
theorem scL_bd {l : List Nat} {e : Int} (hl : ∀ c ∈ l, dg10 c = true) (hn : l.length ≤ 100) (h1 : -1000 ≤ e) (h2 : e ≤ 1000) : (∀ c ∈ scL l e, c < 256) ∧ (scL l e).length ≤ 200 := by
 refine ⟨scL_lt fun c hc => by have := dg10_iff.1 (hl c hc); omega, ?_⟩
 have := scL_len (l := l) (e := e) (by omega)
 omega
theorem SQ.dig {r : Nat} {D : List Nat} {N : Int} (h : SQ r D N) : ∀ c ∈ D, dg10 c = true := by
 obtain ⟨d, _, rfl, _⟩ := h.form
 exact dL_dig d
theorem PrP.bd {k r : Nat} {l : List Nat} (hk : 1 ≤ k) (hk2 : k ≤ 21) (h : PrP k r l) : (∀ c ∈ l, c < 256) ∧ l.length ≤ 200 := by
 obtain ⟨D, E, hl, rfl⟩ := h
 obtain ⟨h1, h2, h3, h4⟩ := hl.len hk
 split
 ·exact scL_bd h2 (by omega) (by omega) (by omega)
 ·rename_i h
  refine ⟨ptL_lt fun c hc => by have := dg10_iff.1 (h2 c hc); omega, ?_⟩
  by_cases h0 : ((k : Int) - 1 - E).toNat = 0
  ·unfold ptL
   rw [if_pos h0]
   omega
  ·rw [ptL_len _ _ h0]
   omega
theorem prp_ex (k : Nat) {r : Nat} (hr : r < 9218868437227405312) : ∃ l, PrP k r l := by
 obtain ⟨D, E, hl⟩ := ldq_ex (count := k) hr
 exact ⟨_, D, E, hl, rfl⟩
theorem tPrecision1_any {r k : Nat} {l : List Nat} {pb : Addr} {w : World} (hr : r < 9218868437227405312) (hk : 1 ≤ k) (hk2 : k ≤ 21) (ht : Tab10 w) (hz : TzTab w) (hp : w.cell? pb = some (.int .i64 k)) (h : PrP k r l) :
  Ct 64 #[.float .f64 r, .pointer (some pb)] (.string (strOf l)) w := by
 obtain ⟨D, E, hl, rfl⟩ := h
 obtain ⟨h5, h2, h3, h4⟩ := hl.len hk
 have hD : ∀ c ∈ D, c < 256 := fun c hc => by
  have := dg10_iff.1 (h2 c hc)
  omega
 have C1 : Hid (∀ W, W = w → Cp 60 #[.float .f64 r, .int .i64 (k : Int)] W fun e w' => e = .returned (.tuple #[.string (strOf D), .int .i64 E]) ∧ Below W.heap.size W w' ∧ W.cell? pb = w'.cell? pb) := Lib.hid fun W hW => by
  subst hW
  exact (tleading_any hr hz hk (by omega) hl).mono fun e w' ⟨a, b⟩ => ⟨a, b, hp.trans (kept_cell b pb _ hp).symm⟩
 have C2 := Lib.hid (fun W (hW : Below w.heap.size w W) => tscientific_any D E W hD (by omega) (by omega) (by omega) (by omega) (ht.on hW))
 by_cases hs : E < -6 ∨ (k : Int) ≤ E
 ·rw [if_pos hs]
  by_cases h6 : E < -6
  ·exact tprec_low r k E pb _ _ w hp h6 C1 C2
  ·exact tprec_high r k E pb _ _ w hp h6 (by omega) C1 C2
 ·rw [if_neg hs]
  exact tprec_mid r k E (((k : Int) - 1 - E).toNat : Nat) pb _ _ w hp hk2 (by omega) (by omega) (by omega) C1 (Lib.hid fun W _ => tpointed_any D _ W hD (by omega) (by omega))
def DgR (T : Nat → List Nat → Prop) (x : Nat) (bad : Prop) (S : ByteArray) (K : Int) : Prop := (bad ∧ S = ⟨#[]⟩ ∧ K = 1) ∨ (¬ bad ∧ K = 0 ∧ ∃ L, S = wdS L ∧ SgQ T x L)
theorem tPrecision_any {x : Nat} {d : Int} {S : ByteArray} {K : Int} {w : World} (hx : x < 18446744073709551616) (ht : Tab10 w) (hz : TzTab w) (h : DgR (PrP d.toNat) x (d < 1 ∨ 21 < d) S K) :
  Ct 23 #[.float .f64 x, .int .i64 d] (.tuple #[.string S, .int .i64 K]) w := by
 rcases h with ⟨hd, rfl, rfl⟩ | ⟨hd, rfl, L, rfl, hL⟩
 ·exact tPrecision_bad x d w hd
 ·obtain ⟨k, rfl⟩ : ∃ k : Nat, d = (k : Int) := ⟨d.toNat, by omega⟩
  rw [Int.toNat_natCast] at hL
  refine tPrecision_ok x k _ w (by omega) (by omega) (Lib.hid fun W pb hW hp => tsigned_cap (T := PrP k) 64 pb hx (fun args W' => by go_simp) (fun r l hr hl => ?_) hL)
  obtain ⟨l1, l2⟩ := hl.bd (by omega) (by omega)
  exact ⟨l1, by omega, tPrecision1_any hr (by omega) (by omega) (ht.on hW) (tz_on hz hW) hp hl⟩

end Go.Proofs.YtfcpkdafkmohkaaGreatDoor
namespace Go.Proofs.YtfcpkdafkmohkaaGreatDoor
open Go.RowKit
theorem wdS_app (A B : List Nat) : wdS A ++ wdS B = wdS (A ++ B) := by
 have e : ∀ L, wdS L = (⟨(bL L).toArray⟩ : ByteArray) := fun _ => rfl
 rw [e, e, e, bL_append]
 apply ByteArray.ext
 simp
theorem wdS_size (L : List Nat) : (wdS L).size = 2 * L.length := by
 show (bL L).toArray.size = _
 rw [List.size_toArray]
 exact bL_length L
theorem wdS_ln (L : List Nat) : ln (wdS L) = L.length := by
 unfold ln
 rw [wdS_size]
 omega
theorem few_ne {x i : Nat} {D : List Nat} {N : Int} {l : List Nat} (h0 : 0 < x) (hq : SQ x D N) (hi : 1 ≤ i) (hi2 : i < D.length) (hl : PrP i x l) : ∃ v, DecIs l v ∧ v ≠ x ∧ v ≤ 9218868437227405312 := by
 obtain ⟨n, k, c, h1, h2, h3, h4, h5, h6, h7⟩ := hq
 have hDk : D.length ≤ k := by
  rcases cnd_last h1 h2 h4 h5 with ⟨g1, g2, g3⟩ | ⟨g1, g2⟩
  ·rw [h6, dL_last g1, dL_len (k := k - 1) g2 (by rw [show k - 1 + 1 = k by omega]; exact g3)]
   omega
  ·subst g1
   subst g2
   rw [h6, show dL 10 = [49, 48] by rw [dL_big (by omega), dL_small (by omega)]; rfl]
   decide
 obtain ⟨c1, c2⟩ := cnd_none.1 (h4 i hi (by omega))
 obtain ⟨D', E, hld, rfl⟩ := hl
 have hlen := hld.len hi
 rcases hld with ⟨g, _⟩ | ⟨_, n', p1, p2, p3, rfl, rfl⟩
 ·omega
 have := point_one p1 h1
 subst this
 obtain ⟨a, b⟩ := rhN_at h1 hi
 have hne : decR (rhN x (i - n')) (n' - i) ≠ x := by
  rcases rhN_cases x i n' with e | e
  ·rw [e]
   exact of_decide_eq_false c1
  ·rw [e]
   exact of_decide_eq_false c2
 have hpos : 0 < rhN x (i - n') := by
  have := ten_pos (i - 1)
  omega
 obtain ⟨M, hM⟩ : ∃ M, rhN x (i - n') = M := ⟨_, rfl⟩
 rw [hM] at a b hne hpos hlen ⊢
 have hval : decR (num 10 ((dL M).take i)) (n' - 1 + (dL M).length - i - i + 1) = decR M (n' - i) := by
  rcases Nat.lt_or_ge M (10 ^ i) with h | h
  ·have hl := dL_len (k := i - 1) a (by rw [show i - 1 + 1 = i by omega]; exact h)
   rw [List.take_of_length_le (by omega), dL_num, hl]
   exact congrArg (decR M) (by omega)
  ·have hMe : M = 1 * 10 ^ i := by omega
   subst hMe
   have e1 : dL 1 = [49] := dL_small (by omega)
   rw [dL_zeros (by omega), e1]
   obtain ⟨j, rfl⟩ : ∃ j, i = j + 1 := ⟨i - 1, by omega⟩
   have e2 : ([49] ++ List.replicate (j + 1) 48).take (j + 1) = [49] ++ List.replicate j 48 := by
    rw [List.singleton_append, List.take_succ_cons, List.take_replicate, show min j (j + 1) = j by omega, List.singleton_append]
   rw [e2, num_app0, num_one, show dgt 49 = 1 by decide, decR_shift, decR_shift, List.length_append, List.length_replicate, List.length_singleton]
   exact congrArg (decR 1) (by omega)
 have hD0 : (dL M).take i ≠ [] := by
  intro h
  have := congrArg List.length h
  rw [hlen.1, List.length_nil] at this
  omega
 have hh : ((dL M).take i).head? ≠ some 48 := by
  have := dL_head hpos
  obtain ⟨j, rfl⟩ : ∃ j, i = j + 1 := ⟨i - 1, by omega⟩
  cases hd : dL M with
  | nil => exact absurd hd (dL_ne M)
  | cons u t =>
   rw [hd] at this
   simpa using this
 split
 ·rename_i hs
  have := dec_exp hD0 hlen.2.1 (.inr (.inl hh)) (e := n' - 1 + (dL M).length - i) (by omega)
  rw [hlen.1, hval] at this
  exact ⟨_, this, hne, decR_le_inf _ _⟩
 ·rename_i hs
  have := dec_point hD0 hlen.2.1 hh ((i : Int) - 1 - (n' - 1 + (dL M).length - i)).toNat
  rw [show -((((i : Int) - 1 - (n' - 1 + (dL M).length - i)).toNat : Nat) : Int) = n' - 1 + (dL M).length - i - i + 1 by omega, hval] at this
  exact ⟨_, this, hne, decR_le_inf _ _⟩
set_option maxRecDepth 100000 in
set_option maxHeartbeats 1000000 in
theorem few_bad (x : Nat) (w : World)
  (C1 : Hid (∀ W, W = w → Ct 12 #[.float .f64 x] (.tuple #[.string ⟨#[]⟩, .int .i64 0, .int .i64 1]) W))
  (C6 : Hid (∀ W, Below w.heap.size w W → Ct 16 #[] (.bool true) W)) :
  Ct 10 #[.float .f64 x] (.bool true) w := by
 go_enter Tryz.func10, Tryz.ntmps10
 go_wp2_with fail
 refine (C1.out _ rfl).mono ?_
 rintro e w1 ⟨rfl, b1⟩
 have B1 := Lib.hid b1
 clear b1
 go_wp2_with fail
 refine (C6.out _ B1.out).mono ?_
 rintro e w5 ⟨rfl, b5⟩
 have B5 := Lib.hid (below_le B1.out b5)
 clear b5
 go_wp2
 go_ret
 exact ⟨rfl, B5.out⟩
set_option maxRecDepth 100000 in
set_option maxHeartbeats 2000000 in
theorem few_0 (x k m : Nat) (N : Int) (S G E T R : ByteArray) (w : World) (hk0 : 1 ≤ k) (hk : k ≤ 17) (hN : N - (k : Int) = (m : Int)) (hm : m < 1000)
  (C1 : Hid (∀ W, W = w → Ct 12 #[.float .f64 x] (.tuple #[.string S, .int .i64 N, .int .i64 0]) W))
  (CL : Hid (∀ W, Cq 37 #[.string S] (.int .i64 k) W))
  (CP : Hid (∀ i : Nat, 1 ≤ i → i < k → ∃ P v, (∀ W, Below w.heap.size w W → Ct 23 #[.float .f64 x, .int .i64 i] (.tuple #[.string P, .int .i64 0]) W) ∧ (∀ W, Ct 28 #[.string P] (.float .f64 v) W) ∧ (FloatKind.f64.format.order v x == some .eq) = false))
  (CD : Hid (∀ W, Ct 39 #[.int .u32 m] (.string G) W))
  (hG : Hid (G.size ≤ 100)) (hE : ⟨#[101]⟩ ++ G = E)
  (CW : Hid (∀ W, Ct 38 #[.string E] (.string T) W))
  (hT : Hid (S.size + T.size ≤ 1000)) (hR : S ++ T = R)
  (CN : Hid (∀ W, Ct 28 #[.string R] (.float .f64 x) W)) (t3 : (FloatKind.f64.format.order x x == some .eq) = true)
  (C6 : Hid (∀ W, Below w.heap.size w W → Ct 16 #[] (.bool true) W)) :
  Ct 10 #[.float .f64 x] (.bool true) w := by
 have g1 : ¬ 9223372036854775807 < 1 + G.size := by have := hG.out; omega
 have g2 : ¬ 9223372036854775807 < S.size + T.size := by have := hT.out; omega
 have k1 : ¬ (k : Int) < 1 := by omega
 have k2 : ¬ 17 < (k : Int) := by omega
 have k3 : (m : Int) < 1000 := by omega
 have k4 : (0 : Int) ≤ (m : Int) := by omega
 have k5 : (k : Int) ≤ 17 := by omega
 have k6 : -1000 ≤ N := by omega
 have k7 : N ≤ 1017 := by omega
 have HN := Lib.hid hN
 have HK := Lib.hid hk0
 clear hN hk0 hk hm
 go_enter Tryz.func10, Tryz.ntmps10
 go_wp2_with fail
 refine (C1.out _ rfl).mono ?_
 rintro e w1 ⟨rfl, b1⟩
 have B1 := Lib.hid b1
 clear b1
 go_wp2_with fail
 refine (CL.out _).mono ?_
 rintro e w' ⟨rfl, rfl⟩
 go_wp2
 go_loopw [7] (fun v wr => ∃ i : Nat, v = .int .i64 i ∧ 1 ≤ i ∧ i ≤ k ∧ Hid (Below w.heap.size w wr)) (fun v _ => k - (intOf v).toNat)
 case atStart => exact ⟨1, rfl, by omega, HK.out, B1⟩
 case round =>
  obtain ⟨i, rfl, hi1, hi2, B1⟩ := hrel
  by_cases hlt : i < k
  ·have t1 : (i : Int) < (k : Int) := by omega
   have t2 : (1 : Int) ≤ (i : Int) := by omega
   obtain ⟨P, v, c1, c2, t4⟩ := CP.out i hi1 hlt
   have C1' := Lib.hid c1
   have C2' := Lib.hid c2
   clear c1 c2
   go_wp2_with fail
   refine (C1'.out _ B1.out).mono ?_
   rintro e w2 ⟨rfl, b2⟩
   have B2 := Lib.hid (below_le B1.out b2)
   clear b2
   go_wp2_with fail
   refine (C2'.out _).mono ?_
   rintro e w3 ⟨rfl, b3⟩
   have B3 := Lib.hid (below_le B2.out b3)
   clear b3
   go_wp2
   exact ⟨⟨i + 1, by go_num, by omega, by omega, B3⟩, by simp [intOf]; omega⟩
  ·obtain rfl : i = k := by omega
   have t1 : ¬ (i : Int) < (i : Int) := by omega
   have hN := HN.out
   go_wp2_with fail
   refine (CD.out _).mono ?_
   rintro e w2 ⟨rfl, b2⟩
   have B2 := Lib.hid (below_le B1.out b2)
   clear b2
   go_wp2_with fail
   refine (CW.out _).mono ?_
   rintro e w3 ⟨rfl, b3⟩
   have B3 := Lib.hid (below_le B2.out b3)
   clear b3
   go_wp2_with fail
   refine (CN.out _).mono ?_
   rintro e w4 ⟨rfl, b4⟩
   have B4 := Lib.hid (below_le B3.out b4)
   clear b4
   go_wp2_with fail
   refine (C6.out _ B4.out).mono ?_
   rintro e w5 ⟨rfl, b5⟩
   have B5 := Lib.hid (below_le B4.out b5)
   clear b5
   go_wp2
   go_ret
   exact ⟨rfl, B5.out⟩
set_option maxRecDepth 100000 in
set_option maxHeartbeats 2000000 in
theorem few_1 (x k m : Nat) (N : Int) (S G E T R : ByteArray) (w : World) (hk0 : 1 ≤ k) (hk : k ≤ 17) (hN : N - (k : Int) = -(m : Int)) (hm0 : 0 < m) (hm : m < 1000)
  (C1 : Hid (∀ W, W = w → Ct 12 #[.float .f64 x] (.tuple #[.string S, .int .i64 N, .int .i64 0]) W))
  (CL : Hid (∀ W, Cq 37 #[.string S] (.int .i64 k) W))
  (CP : Hid (∀ i : Nat, 1 ≤ i → i < k → ∃ P v, (∀ W, Below w.heap.size w W → Ct 23 #[.float .f64 x, .int .i64 i] (.tuple #[.string P, .int .i64 0]) W) ∧ (∀ W, Ct 28 #[.string P] (.float .f64 v) W) ∧ (FloatKind.f64.format.order v x == some .eq) = false))
  (CD : Hid (∀ W, Ct 39 #[.int .u32 m] (.string G) W))
  (hG : Hid (G.size ≤ 100)) (hE : ⟨#[101, 45]⟩ ++ G = E)
  (CW : Hid (∀ W, Ct 38 #[.string E] (.string T) W))
  (hT : Hid (S.size + T.size ≤ 1000)) (hR : S ++ T = R)
  (CN : Hid (∀ W, Ct 28 #[.string R] (.float .f64 x) W)) (t3 : (FloatKind.f64.format.order x x == some .eq) = true)
  (C6 : Hid (∀ W, Below w.heap.size w W → Ct 16 #[] (.bool true) W)) :
  Ct 10 #[.float .f64 x] (.bool true) w := by
 have g1 : ¬ 9223372036854775807 < 2 + G.size := by have := hG.out; omega
 have g2 : ¬ 9223372036854775807 < S.size + T.size := by have := hT.out; omega
 have k1 : ¬ (k : Int) < 1 := by omega
 have k2 : ¬ 17 < (k : Int) := by omega
 have k3 : (m : Int) < 1000 := by omega
 have k4 : (0 : Int) ≤ (m : Int) := by omega
 have k5 : (k : Int) ≤ 17 := by omega
 have k6 : -1000 ≤ N := by omega
 have k7 : N ≤ 1017 := by omega
 have k8 : -(m : Int) < 0 := by omega
 have HN := Lib.hid hN
 have HK := Lib.hid hk0
 clear hN hk0 hk hm0 hm
 go_enter Tryz.func10, Tryz.ntmps10
 go_wp2_with fail
 refine (C1.out _ rfl).mono ?_
 rintro e w1 ⟨rfl, b1⟩
 have B1 := Lib.hid b1
 clear b1
 go_wp2_with fail
 refine (CL.out _).mono ?_
 rintro e w' ⟨rfl, rfl⟩
 go_wp2
 go_loopw [7] (fun v wr => ∃ i : Nat, v = .int .i64 i ∧ 1 ≤ i ∧ i ≤ k ∧ Hid (Below w.heap.size w wr)) (fun v _ => k - (intOf v).toNat)
 case atStart => exact ⟨1, rfl, by omega, HK.out, B1⟩
 case round =>
  obtain ⟨i, rfl, hi1, hi2, B1⟩ := hrel
  by_cases hlt : i < k
  ·have t1 : (i : Int) < (k : Int) := by omega
   have t2 : (1 : Int) ≤ (i : Int) := by omega
   obtain ⟨P, v, c1, c2, t4⟩ := CP.out i hi1 hlt
   have C1' := Lib.hid c1
   have C2' := Lib.hid c2
   clear c1 c2
   go_wp2_with fail
   refine (C1'.out _ B1.out).mono ?_
   rintro e w2 ⟨rfl, b2⟩
   have B2 := Lib.hid (below_le B1.out b2)
   clear b2
   go_wp2_with fail
   refine (C2'.out _).mono ?_
   rintro e w3 ⟨rfl, b3⟩
   have B3 := Lib.hid (below_le B2.out b3)
   clear b3
   go_wp2
   exact ⟨⟨i + 1, by go_num, by omega, by omega, B3⟩, by simp [intOf]; omega⟩
  ·obtain rfl : i = k := by omega
   have t1 : ¬ (i : Int) < (i : Int) := by omega
   have hN := HN.out
   go_wp2_with fail
   refine (CD.out _).mono ?_
   rintro e w2 ⟨rfl, b2⟩
   have B2 := Lib.hid (below_le B1.out b2)
   clear b2
   go_wp2_with fail
   refine (CW.out _).mono ?_
   rintro e w3 ⟨rfl, b3⟩
   have B3 := Lib.hid (below_le B2.out b3)
   clear b3
   go_wp2_with fail
   refine (CN.out _).mono ?_
   rintro e w4 ⟨rfl, b4⟩
   have B4 := Lib.hid (below_le B3.out b4)
   clear b4
   go_wp2_with fail
   refine (C6.out _ B4.out).mono ?_
   rintro e w5 ⟨rfl, b5⟩
   have B5 := Lib.hid (below_le B4.out b5)
   clear b5
   go_wp2
   go_ret
   exact ⟨rfl, B5.out⟩
theorem ord_ne_pos {v x : Nat} (h : v ≠ x) (hv : v ≤ 9218868437227405312) (hx : x ≤ 9218868437227405312) : (FloatKind.f64.format.order v x == some .eq) = false := by
 rw [ord_eq_pos hv hx]
 exact decide_eq_false h
theorem few_any (x : Nat) (w : World) (hx : x < 18446744073709551616) (ht : Tab10 w) (hz : TzTab w) :
  Ct 10 #[.float .f64 x] (.bool true) w := by
 obtain ⟨S, N, K, hs⟩ := shq_ex x
 have C1 : Hid (∀ W, W = w → Ct 12 #[.float .f64 x] (.tuple #[.string S, .int .i64 N, .int .i64 K]) W) := Lib.hid (fun W (hW : W = w) => tShortest_any (w := W) hx (hW ▸ ht) (hW ▸ hz) hs)
 have C6 : Hid (∀ W, Below w.heap.size w W → Ct 16 #[] (.bool true) W) := Lib.hid (fun W (h : Below w.heap.size w W) => awake_any W (ht.on h) (tz_on hz h))
 rcases hs with ⟨hp, rfl, rfl, rfl⟩ | ⟨hp, D, hq, rfl, rfl⟩
 ·exact few_bad x w C1 C6
 ·obtain ⟨h0, h1⟩ := posB_iff.1 hp
  obtain ⟨b1, b2, b3, b4, b5⟩ := hq.bd h0 h1
  obtain ⟨d, d1, hD, d3, d4⟩ := hq.form
  obtain ⟨hfi, hna, hne⟩ := fin_pos h1
  have hru : rung x = x := (frank_pos (x := x) (by omega)).2
  have hng : ngB x = false := by
   unfold ngB
   rw [hne]
   rfl
  have hsg : sgx x = [] := by
   unfold sgx
   rw [hng]
   rfl
  have hlenD : ln (wdS D) = D.length := wdS_ln D
  have hszD := wdS_size D
  have CL : Hid (∀ W, Cq 37 #[.string (wdS D)] (.int .i64 D.length) W) := Lib.hid (fun W => by
   have := rlen_any (wdS D) W (by unfold maxLen; omega)
   rw [hlenD] at this
   exact this)
  have CP : Hid (∀ i : Nat, 1 ≤ i → i < D.length → ∃ P v, (∀ W, Below w.heap.size w W → Ct 23 #[.float .f64 x, .int .i64 i] (.tuple #[.string P, .int .i64 0]) W) ∧ (∀ W, Ct 28 #[.string P] (.float .f64 v) W) ∧ (FloatKind.f64.format.order v x == some .eq) = false) := Lib.hid (fun i i1 i2 => by
   obtain ⟨l, hl⟩ := prp_ex i h1
   obtain ⟨v, hd, hv, hv2⟩ := few_ne h0 hq i1 i2 hl
   obtain ⟨e1, e2⟩ := hl.bd i1 (by omega)
   have hnum := hd.num.1
   obtain ⟨w1, _, _⟩ := numW_wide hd.low
   refine ⟨wdS l, v, fun W hW => tPrecision_any hx (ht.on hW) (tz_on hz hW) (.inr ⟨by omega, rfl, l, rfl, .inr (.inr ⟨hna, hfi, l, ?_, by rw [hsg]; rfl⟩)⟩), fun W => ?_, ord_ne_pos hv hv2 (by omega)⟩
   ·rw [hru, Int.toNat_natCast]
    exact hl
   ·have := tNumber_any (wdS l) W (by rw [wdS_size]; omega)
    rw [w1, hnum] at this
    exact this)
  have t3 := ord_same hna
  have hdig : ∀ c ∈ D, dg10 c = true := hq.dig
  have hD0 : D ≠ [] := by
   rw [hD]
   exact dL_ne d
  have hhd : D.head? ≠ some 48 := by
   rw [hD]
   exact dL_head (by omega)
  have hnD : num 10 D = d := by rw [hD, dL_num]
  have rd : ∀ E X, ExpIs E X → decR d X = x → (∀ c ∈ E, c < 256) → Hid (∀ W, Ct 28 #[.string (wdS (D ++ E))] (.float .f64 x) W) ∨ 100 < E.length := by
   intro E X hE hX hE2
   by_cases hl : 100 < E.length
   ·exact .inr hl
   ·left
    have hdec : DecIs (D ++ E) x := ⟨D, [], [], E, X, hD0, hdig, by simp, .inl ⟨rfl, rfl⟩, hE, .inr hhd, by simp, by rw [List.append_nil, hnD, List.length_nil, show X - ((0 : Nat) : Int) = X by omega]; exact hX⟩
    obtain ⟨w1, _, _⟩ := numW_wide hdec.low
    refine Lib.hid (fun W => ?_)
    have := tNumber_any (wdS (D ++ E)) W (by rw [wdS_size, List.length_append]; omega)
    rw [w1, hdec.num.1] at this
    exact this
  rcases (show 0 ≤ N - (D.length : Int) ∨ N - (D.length : Int) < 0 by omega) with hs | hs
  ·obtain ⟨m, hm⟩ : ∃ m : Nat, N - (D.length : Int) = (m : Int) := ⟨(N - D.length).toNat, by omega⟩
   have hml := dL_le (n := m) (k := 3) (by omega) (by omega)
   have hE : ExpIs (101 :: dL m) (m : Int) := .inr (.inr ⟨dL m, rfl, dL_ne m, dL_dig m, by rw [amt_dL m (by omega)]⟩)
   have h256 : ∀ c ∈ 101 :: dL m, c < 256 := fun c hc => by
    rcases List.mem_cons.1 hc with rfl | hc
    ·omega
    ·have := dg10_iff.1 (dL_dig m c hc)
     omega
   have CN := (rd _ _ hE (by rw [← hm]; exact d4) h256).resolve_right (by rw [List.length_cons]; omega)
   exact few_0 x D.length m N _ (strOf (dL m)) (strOf (101 :: dL m)) (wdS (101 :: dL m)) _ w b3 b4 hm (by omega) C1 CL CP (Lib.hid fun W => ldigits_any m W (by omega)) (Lib.hid (by rw [strOf_size]; omega)) (by rw [show (⟨#[101]⟩ : ByteArray) = strOf [101] from rfl, strOf_append]; rfl) (Lib.hid fun W => vwide_any _ W h256 (by rw [List.length_cons]; omega)) (Lib.hid (by rw [wdS_size, wdS_size, List.length_cons]; omega)) (wdS_app _ _) CN t3 C6
  ·obtain ⟨m, hm⟩ : ∃ m : Nat, N - (D.length : Int) = -(m : Int) := ⟨(-(N - D.length)).toNat, by omega⟩
   have hml := dL_le (n := m) (k := 3) (by omega) (by omega)
   have hE : ExpIs (101 :: 45 :: dL m) (-(m : Int)) := .inr (.inl ⟨45, dL m, rfl, .inr rfl, dL_ne m, dL_dig m, by rw [if_pos rfl, amt_dL m (by omega)]⟩)
   have h256 : ∀ c ∈ 101 :: 45 :: dL m, c < 256 := fun c hc => by
    rcases List.mem_cons.1 hc with rfl | hc
    ·omega
    ·rcases List.mem_cons.1 hc with rfl | hc
     ·omega
     ·have := dg10_iff.1 (dL_dig m c hc)
      omega
   have CN := (rd _ _ hE (by rw [← hm]; exact d4) h256).resolve_right (by rw [List.length_cons, List.length_cons]; omega)
   exact few_1 x D.length m N _ (strOf (dL m)) (strOf (101 :: 45 :: dL m)) (wdS (101 :: 45 :: dL m)) _ w b3 b4 hm (by omega) (by omega) C1 CL CP (Lib.hid fun W => ldigits_any m W (by omega)) (Lib.hid (by rw [strOf_size]; omega)) (by rw [show (⟨#[101, 45]⟩ : ByteArray) = strOf [101, 45] from rfl, strOf_append]; rfl) (Lib.hid fun W => vwide_any _ W h256 (by rw [List.length_cons, List.length_cons]; omega)) (Lib.hid (by rw [wdS_size, wdS_size, List.length_cons, List.length_cons]; omega)) (wdS_app _ _) CN t3 C6

end Go.Proofs.YtfcpkdafkmohkaaGreatDoor
