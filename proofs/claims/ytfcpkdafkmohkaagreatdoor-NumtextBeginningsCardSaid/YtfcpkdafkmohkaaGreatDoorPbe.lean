/-
  Merged texts (Tt, Tu, Va, Vb, Vc, Ve, Vd, Vf, Vg, Vh).
-/
import Derived.Test.YtfcpkdafkmohkaaGreatDoorPbd
import Derived.Shelf.Strings.Builder1
import Derived.Shelf.Strings.Builder2
import Derived.Shelf.Strings.OnBuilder
import Derived.Shelf.Strings.Trim
import Derived.Shelf.Small.Utf8
import Derived.Shelf.Small.Bits
import Derived.Shelf.Small.Strs
import Derived.Shelf.Small.Wraps
import Derived.Shelf.Strings.BuilderF
import Derived.Shelf.Strings.BuilderK
import Derived.Shelf.Strconv.Itoa0
import Derived.Shelf.Strconv.Itoa1
import Derived.Shelf.LaysM
import Derived.Shelf.Strconv.Itoa2
import Derived.Shelf.Strconv.Itoa3
import Derived.Shelf.Strings.Search1
import Derived.Shelf.Strings.Prefix
import Derived.Shelf.Unicode.Latin
import Derived.Shelf.Strings.Runes
import Derived.Shelf.Strings.AsciiSet
import Derived.Shelf.Bits.Mul64
import Derived.Shelf.Strings.Repeat
import Derived.Shelf.Unicode.DecodeSlow
import Derived.Shelf.Unicode.CaseLookup
import Derived.Shelf.Unicode.CaseConvert
import Derived.Shelf.Unicode.CaseTo
import Derived.Shelf.Unicode.CaseLaid
import Derived.Shelf.Strings.SlTrimAscii
import Derived.Test.YtfcpkdafkmohkaaGreatDoorProg
import GoSem.Core.Utf8
import Derived.WalkKit
import Derived.WalkSpells
import Derived.WalkLawsBesides
import Derived.Deep.QuietTactic
import Derived.BigQuiet
import Derived.Lib.Hide
import Derived.Deep.OwnRows
import Derived.Laws.CopyOwn
import Derived.Deep.AppendLies
import Derived.Lib.BitFns
import Derived.Lib.Strings
import Derived.Laws.BitsAllLaws
import Derived.Lib.LaidTab
import Derived.ProofKit
import Derived.OpenShut
import Derived.SizedLaws
import Derived.Laws.BytesString
import Derived.Laws.Cells
import Derived.Deep.RegionWith
import Derived.BigRegion
import Derived.Test.YtfcpkdafkmohkaaGreatDoorRows
import Derived.Deep.RegionHeld3
import Derived.Laws.Closers25b
import Ieee.Arith
import GoSem.Core.Float
import Derived.Lib.ItoaNum
import Derived.Deep.DeepCutAuto
import Derived.Laws.FloatArith
import Derived.Laws.Externs
import Derived.Lib.SlTrimSet
import Derived.Lib.Case
import Derived.Deep.WholeRow
import Derived.Laws.Tables
import Derived.Laws.EntriesVeiled
namespace Go.Proofs.YtfcpkdafkmohkaaGreatDoor
set_option maxRecDepth 100000
open Go.RowKit
set_option maxHeartbeats 1000000 in
theorem tInt_z1n (s l U T V f q : ByteArray) (b : Bool) (Q : ByteArray → Prop) (w : World)
  (C1 : Hid (∀ W, Cp 81 #[.string s] W fun e w' => (∃ t, e = .returned (.string t) ∧ Q t) ∧ Below W.heap.size W w'))
  (C2 : Hid (∀ t, Q t → ∀ W, Ct 66 #[.string t] (.string l) W))
  (C3 : Hid (∀ W, Cq 84 #[.string l] (.tuple #[.float .f64 (sgF b : Nat), .string U]) W))
  (C4 : Hid (∀ W, Cq 85 #[.string U] (.tuple #[.string T, .bool true]) W))
  (C5 : Hid (∀ W, Ct 87 #[.string T] (.string V) W))
  (C6 : Hid (∀ W, Ct 86 #[.string V, .int .i64 16] (.tuple #[.string f, .string q]) W))
  (t1 : f.toList.isEmpty = true)
  : Ct 32 #[.string s, .int .i64 0] (.float .f64 (nanW : Nat)) w := by
 have C8 := Lib.hid (fun W => tnan_any W)
 go_enter Tryz.func32, Tryz.ntmps32
 go_wp2_with fail
 refine (C1.out _).mono ?_
 rintro e w1 ⟨⟨t0, rfl, hq⟩, b1⟩
 have C2' := Lib.hid (C2.out t0 hq)
 have B1 := Lib.hid b1
 clear b1 hq C2
 go_wp2_with fail
 refine (C2'.out _).mono ?_
 rintro e w2 ⟨rfl, b2⟩
 have B2 := Lib.hid (below_le B1.out b2)
 clear b2
 go_wp2_with fail
 refine (C3.out _).mono ?_
 rintro e w' ⟨rfl, rfl⟩
 go_wp2_with fail
 refine (C4.out _).mono ?_
 rintro e w' ⟨rfl, rfl⟩
 go_wp2_with fail
 refine (C5.out _).mono ?_
 rintro e w3 ⟨rfl, b3⟩
 have B3 := Lib.hid (below_le B2.out b3)
 clear b3
 go_wp2_with fail
 refine (C6.out _).mono ?_
 rintro e w4 ⟨rfl, b4⟩
 have B4 := Lib.hid (below_le B3.out b4)
 clear b4
 go_wp2_with fail
 refine (C8.out _).mono ?_
 rintro e w' ⟨rfl, rfl⟩
 go_wp2
 go_ret
 exact ⟨rfl, B4.out⟩
set_option maxHeartbeats 1000000 in
theorem tInt_z1v (s l U T V f q : ByteArray) (b : Bool) (F : Nat) (Q : ByteArray → Prop) (w : World)
  (C1 : Hid (∀ W, Cp 81 #[.string s] W fun e w' => (∃ t, e = .returned (.string t) ∧ Q t) ∧ Below W.heap.size W w'))
  (C2 : Hid (∀ t, Q t → ∀ W, Ct 66 #[.string t] (.string l) W))
  (C3 : Hid (∀ W, Cq 84 #[.string l] (.tuple #[.float .f64 (sgF b : Nat), .string U]) W))
  (C4 : Hid (∀ W, Cq 85 #[.string U] (.tuple #[.string T, .bool true]) W))
  (C5 : Hid (∀ W, Ct 87 #[.string T] (.string V) W))
  (C6 : Hid (∀ W, Ct 86 #[.string V, .int .i64 16] (.tuple #[.string f, .string q]) W))
  (C7 : Hid (∀ W, Ct 89 #[.string f, .int .i64 16] (.float .f64 F) W))
  (hF : F < 9223372036854775808) (t1 : f.toList.isEmpty = false)
  : Ct 32 #[.string s, .int .i64 0] (.float .f64 (sgW b F : Nat)) w := by
 have C8 := Lib.hid (fun W => tcopysign_any F b W hF)
 clear hF
 go_enter Tryz.func32, Tryz.ntmps32
 go_wp2_with fail
 refine (C1.out _).mono ?_
 rintro e w1 ⟨⟨t0, rfl, hq⟩, b1⟩
 have C2' := Lib.hid (C2.out t0 hq)
 have B1 := Lib.hid b1
 clear b1 hq C2
 go_wp2_with fail
 refine (C2'.out _).mono ?_
 rintro e w2 ⟨rfl, b2⟩
 have B2 := Lib.hid (below_le B1.out b2)
 clear b2
 go_wp2_with fail
 refine (C3.out _).mono ?_
 rintro e w' ⟨rfl, rfl⟩
 go_wp2_with fail
 refine (C4.out _).mono ?_
 rintro e w' ⟨rfl, rfl⟩
 go_wp2_with fail
 refine (C5.out _).mono ?_
 rintro e w3 ⟨rfl, b3⟩
 have B3 := Lib.hid (below_le B2.out b3)
 clear b3
 go_wp2_with fail
 refine (C6.out _).mono ?_
 rintro e w4 ⟨rfl, b4⟩
 have B4 := Lib.hid (below_le B3.out b4)
 clear b4
 go_wp2_with fail
 refine (C7.out _).mono ?_
 rintro e w5 ⟨rfl, b5⟩
 have B5 := Lib.hid (below_le B4.out b5)
 clear b5
 go_wp2_with fail
 refine (C8.out _).mono ?_
 rintro e w' ⟨rfl, rfl⟩
 go_wp2
 go_ret
 exact ⟨rfl, B5.out⟩
set_option maxHeartbeats 1000000 in
theorem tInt_z0n (s l U T V f q : ByteArray) (b : Bool) (Q : ByteArray → Prop) (w : World)
  (C1 : Hid (∀ W, Cp 81 #[.string s] W fun e w' => (∃ t, e = .returned (.string t) ∧ Q t) ∧ Below W.heap.size W w'))
  (C2 : Hid (∀ t, Q t → ∀ W, Ct 66 #[.string t] (.string l) W))
  (C3 : Hid (∀ W, Cq 84 #[.string l] (.tuple #[.float .f64 (sgF b : Nat), .string U]) W))
  (C4 : Hid (∀ W, Cq 85 #[.string U] (.tuple #[.string T, .bool false]) W))
  (C5 : Hid (∀ W, Ct 87 #[.string U] (.string V) W))
  (C6 : Hid (∀ W, Ct 86 #[.string V, .int .i64 10] (.tuple #[.string f, .string q]) W))
  (t1 : f.toList.isEmpty = true)
  : Ct 32 #[.string s, .int .i64 0] (.float .f64 (nanW : Nat)) w := by
 have C8 := Lib.hid (fun W => tnan_any W)
 go_enter Tryz.func32, Tryz.ntmps32
 go_wp2_with fail
 refine (C1.out _).mono ?_
 rintro e w1 ⟨⟨t0, rfl, hq⟩, b1⟩
 have C2' := Lib.hid (C2.out t0 hq)
 have B1 := Lib.hid b1
 clear b1 hq C2
 go_wp2_with fail
 refine (C2'.out _).mono ?_
 rintro e w2 ⟨rfl, b2⟩
 have B2 := Lib.hid (below_le B1.out b2)
 clear b2
 go_wp2_with fail
 refine (C3.out _).mono ?_
 rintro e w' ⟨rfl, rfl⟩
 go_wp2_with fail
 refine (C4.out _).mono ?_
 rintro e w' ⟨rfl, rfl⟩
 go_wp2_with fail
 refine (C5.out _).mono ?_
 rintro e w3 ⟨rfl, b3⟩
 have B3 := Lib.hid (below_le B2.out b3)
 clear b3
 go_wp2_with fail
 refine (C6.out _).mono ?_
 rintro e w4 ⟨rfl, b4⟩
 have B4 := Lib.hid (below_le B3.out b4)
 clear b4
 go_wp2_with fail
 refine (C8.out _).mono ?_
 rintro e w' ⟨rfl, rfl⟩
 go_wp2
 go_ret
 exact ⟨rfl, B4.out⟩
set_option maxHeartbeats 1000000 in
theorem tInt_z0v (s l U T V f q : ByteArray) (b : Bool) (F : Nat) (Q : ByteArray → Prop) (w : World)
  (C1 : Hid (∀ W, Cp 81 #[.string s] W fun e w' => (∃ t, e = .returned (.string t) ∧ Q t) ∧ Below W.heap.size W w'))
  (C2 : Hid (∀ t, Q t → ∀ W, Ct 66 #[.string t] (.string l) W))
  (C3 : Hid (∀ W, Cq 84 #[.string l] (.tuple #[.float .f64 (sgF b : Nat), .string U]) W))
  (C4 : Hid (∀ W, Cq 85 #[.string U] (.tuple #[.string T, .bool false]) W))
  (C5 : Hid (∀ W, Ct 87 #[.string U] (.string V) W))
  (C6 : Hid (∀ W, Ct 86 #[.string V, .int .i64 10] (.tuple #[.string f, .string q]) W))
  (C7 : Hid (∀ W, Ct 89 #[.string f, .int .i64 10] (.float .f64 F) W))
  (hF : F < 9223372036854775808) (t1 : f.toList.isEmpty = false)
  : Ct 32 #[.string s, .int .i64 0] (.float .f64 (sgW b F : Nat)) w := by
 have C8 := Lib.hid (fun W => tcopysign_any F b W hF)
 clear hF
 go_enter Tryz.func32, Tryz.ntmps32
 go_wp2_with fail
 refine (C1.out _).mono ?_
 rintro e w1 ⟨⟨t0, rfl, hq⟩, b1⟩
 have C2' := Lib.hid (C2.out t0 hq)
 have B1 := Lib.hid b1
 clear b1 hq C2
 go_wp2_with fail
 refine (C2'.out _).mono ?_
 rintro e w2 ⟨rfl, b2⟩
 have B2 := Lib.hid (below_le B1.out b2)
 clear b2
 go_wp2_with fail
 refine (C3.out _).mono ?_
 rintro e w' ⟨rfl, rfl⟩
 go_wp2_with fail
 refine (C4.out _).mono ?_
 rintro e w' ⟨rfl, rfl⟩
 go_wp2_with fail
 refine (C5.out _).mono ?_
 rintro e w3 ⟨rfl, b3⟩
 have B3 := Lib.hid (below_le B2.out b3)
 clear b3
 go_wp2_with fail
 refine (C6.out _).mono ?_
 rintro e w4 ⟨rfl, b4⟩
 have B4 := Lib.hid (below_le B3.out b4)
 clear b4
 go_wp2_with fail
 refine (C7.out _).mono ?_
 rintro e w5 ⟨rfl, b5⟩
 have B5 := Lib.hid (below_le B4.out b5)
 clear b5
 go_wp2_with fail
 refine (C8.out _).mono ?_
 rintro e w' ⟨rfl, rfl⟩
 go_wp2
 go_ret
 exact ⟨rfl, B5.out⟩
set_option maxHeartbeats 1000000 in
theorem tInt_s1n (s l U T V f q : ByteArray) (b : Bool) (Q : ByteArray → Prop) (w : World)
  (C1 : Hid (∀ W, Cp 81 #[.string s] W fun e w' => (∃ t, e = .returned (.string t) ∧ Q t) ∧ Below W.heap.size W w'))
  (C2 : Hid (∀ t, Q t → ∀ W, Ct 66 #[.string t] (.string l) W))
  (C3 : Hid (∀ W, Cq 84 #[.string l] (.tuple #[.float .f64 (sgF b : Nat), .string U]) W))
  (C4 : Hid (∀ W, Cq 85 #[.string U] (.tuple #[.string T, .bool true]) W))
  (C5 : Hid (∀ W, Ct 87 #[.string T] (.string V) W))
  (C6 : Hid (∀ W, Ct 86 #[.string V, .int .i64 16] (.tuple #[.string f, .string q]) W))
  (t1 : f.toList.isEmpty = true)
  : Ct 32 #[.string s, .int .i64 16] (.float .f64 (nanW : Nat)) w := by
 have C8 := Lib.hid (fun W => tnan_any W)
 go_enter Tryz.func32, Tryz.ntmps32
 go_wp2_with fail
 refine (C1.out _).mono ?_
 rintro e w1 ⟨⟨t0, rfl, hq⟩, b1⟩
 have C2' := Lib.hid (C2.out t0 hq)
 have B1 := Lib.hid b1
 clear b1 hq C2
 go_wp2_with fail
 refine (C2'.out _).mono ?_
 rintro e w2 ⟨rfl, b2⟩
 have B2 := Lib.hid (below_le B1.out b2)
 clear b2
 go_wp2_with fail
 refine (C3.out _).mono ?_
 rintro e w' ⟨rfl, rfl⟩
 go_wp2_with fail
 refine (C4.out _).mono ?_
 rintro e w' ⟨rfl, rfl⟩
 go_wp2_with fail
 refine (C5.out _).mono ?_
 rintro e w3 ⟨rfl, b3⟩
 have B3 := Lib.hid (below_le B2.out b3)
 clear b3
 go_wp2_with fail
 refine (C6.out _).mono ?_
 rintro e w4 ⟨rfl, b4⟩
 have B4 := Lib.hid (below_le B3.out b4)
 clear b4
 go_wp2_with fail
 refine (C8.out _).mono ?_
 rintro e w' ⟨rfl, rfl⟩
 go_wp2
 go_ret
 exact ⟨rfl, B4.out⟩
set_option maxHeartbeats 1000000 in
theorem tInt_s1v (s l U T V f q : ByteArray) (b : Bool) (F : Nat) (Q : ByteArray → Prop) (w : World)
  (C1 : Hid (∀ W, Cp 81 #[.string s] W fun e w' => (∃ t, e = .returned (.string t) ∧ Q t) ∧ Below W.heap.size W w'))
  (C2 : Hid (∀ t, Q t → ∀ W, Ct 66 #[.string t] (.string l) W))
  (C3 : Hid (∀ W, Cq 84 #[.string l] (.tuple #[.float .f64 (sgF b : Nat), .string U]) W))
  (C4 : Hid (∀ W, Cq 85 #[.string U] (.tuple #[.string T, .bool true]) W))
  (C5 : Hid (∀ W, Ct 87 #[.string T] (.string V) W))
  (C6 : Hid (∀ W, Ct 86 #[.string V, .int .i64 16] (.tuple #[.string f, .string q]) W))
  (C7 : Hid (∀ W, Ct 89 #[.string f, .int .i64 16] (.float .f64 F) W))
  (hF : F < 9223372036854775808) (t1 : f.toList.isEmpty = false)
  : Ct 32 #[.string s, .int .i64 16] (.float .f64 (sgW b F : Nat)) w := by
 have C8 := Lib.hid (fun W => tcopysign_any F b W hF)
 clear hF
 go_enter Tryz.func32, Tryz.ntmps32
 go_wp2_with fail
 refine (C1.out _).mono ?_
 rintro e w1 ⟨⟨t0, rfl, hq⟩, b1⟩
 have C2' := Lib.hid (C2.out t0 hq)
 have B1 := Lib.hid b1
 clear b1 hq C2
 go_wp2_with fail
 refine (C2'.out _).mono ?_
 rintro e w2 ⟨rfl, b2⟩
 have B2 := Lib.hid (below_le B1.out b2)
 clear b2
 go_wp2_with fail
 refine (C3.out _).mono ?_
 rintro e w' ⟨rfl, rfl⟩
 go_wp2_with fail
 refine (C4.out _).mono ?_
 rintro e w' ⟨rfl, rfl⟩
 go_wp2_with fail
 refine (C5.out _).mono ?_
 rintro e w3 ⟨rfl, b3⟩
 have B3 := Lib.hid (below_le B2.out b3)
 clear b3
 go_wp2_with fail
 refine (C6.out _).mono ?_
 rintro e w4 ⟨rfl, b4⟩
 have B4 := Lib.hid (below_le B3.out b4)
 clear b4
 go_wp2_with fail
 refine (C7.out _).mono ?_
 rintro e w5 ⟨rfl, b5⟩
 have B5 := Lib.hid (below_le B4.out b5)
 clear b5
 go_wp2_with fail
 refine (C8.out _).mono ?_
 rintro e w' ⟨rfl, rfl⟩
 go_wp2
 go_ret
 exact ⟨rfl, B5.out⟩
set_option maxHeartbeats 1000000 in
theorem tInt_s0n (s l U T V f q : ByteArray) (b : Bool) (Q : ByteArray → Prop) (w : World)
  (C1 : Hid (∀ W, Cp 81 #[.string s] W fun e w' => (∃ t, e = .returned (.string t) ∧ Q t) ∧ Below W.heap.size W w'))
  (C2 : Hid (∀ t, Q t → ∀ W, Ct 66 #[.string t] (.string l) W))
  (C3 : Hid (∀ W, Cq 84 #[.string l] (.tuple #[.float .f64 (sgF b : Nat), .string U]) W))
  (C4 : Hid (∀ W, Cq 85 #[.string U] (.tuple #[.string T, .bool false]) W))
  (C5 : Hid (∀ W, Ct 87 #[.string U] (.string V) W))
  (C6 : Hid (∀ W, Ct 86 #[.string V, .int .i64 16] (.tuple #[.string f, .string q]) W))
  (t1 : f.toList.isEmpty = true)
  : Ct 32 #[.string s, .int .i64 16] (.float .f64 (nanW : Nat)) w := by
 have C8 := Lib.hid (fun W => tnan_any W)
 go_enter Tryz.func32, Tryz.ntmps32
 go_wp2_with fail
 refine (C1.out _).mono ?_
 rintro e w1 ⟨⟨t0, rfl, hq⟩, b1⟩
 have C2' := Lib.hid (C2.out t0 hq)
 have B1 := Lib.hid b1
 clear b1 hq C2
 go_wp2_with fail
 refine (C2'.out _).mono ?_
 rintro e w2 ⟨rfl, b2⟩
 have B2 := Lib.hid (below_le B1.out b2)
 clear b2
 go_wp2_with fail
 refine (C3.out _).mono ?_
 rintro e w' ⟨rfl, rfl⟩
 go_wp2_with fail
 refine (C4.out _).mono ?_
 rintro e w' ⟨rfl, rfl⟩
 go_wp2_with fail
 refine (C5.out _).mono ?_
 rintro e w3 ⟨rfl, b3⟩
 have B3 := Lib.hid (below_le B2.out b3)
 clear b3
 go_wp2_with fail
 refine (C6.out _).mono ?_
 rintro e w4 ⟨rfl, b4⟩
 have B4 := Lib.hid (below_le B3.out b4)
 clear b4
 go_wp2_with fail
 refine (C8.out _).mono ?_
 rintro e w' ⟨rfl, rfl⟩
 go_wp2
 go_ret
 exact ⟨rfl, B4.out⟩
set_option maxHeartbeats 1000000 in
theorem tInt_s0v (s l U T V f q : ByteArray) (b : Bool) (F : Nat) (Q : ByteArray → Prop) (w : World)
  (C1 : Hid (∀ W, Cp 81 #[.string s] W fun e w' => (∃ t, e = .returned (.string t) ∧ Q t) ∧ Below W.heap.size W w'))
  (C2 : Hid (∀ t, Q t → ∀ W, Ct 66 #[.string t] (.string l) W))
  (C3 : Hid (∀ W, Cq 84 #[.string l] (.tuple #[.float .f64 (sgF b : Nat), .string U]) W))
  (C4 : Hid (∀ W, Cq 85 #[.string U] (.tuple #[.string T, .bool false]) W))
  (C5 : Hid (∀ W, Ct 87 #[.string U] (.string V) W))
  (C6 : Hid (∀ W, Ct 86 #[.string V, .int .i64 16] (.tuple #[.string f, .string q]) W))
  (C7 : Hid (∀ W, Ct 89 #[.string f, .int .i64 16] (.float .f64 F) W))
  (hF : F < 9223372036854775808) (t1 : f.toList.isEmpty = false)
  : Ct 32 #[.string s, .int .i64 16] (.float .f64 (sgW b F : Nat)) w := by
 have C8 := Lib.hid (fun W => tcopysign_any F b W hF)
 clear hF
 go_enter Tryz.func32, Tryz.ntmps32
 go_wp2_with fail
 refine (C1.out _).mono ?_
 rintro e w1 ⟨⟨t0, rfl, hq⟩, b1⟩
 have C2' := Lib.hid (C2.out t0 hq)
 have B1 := Lib.hid b1
 clear b1 hq C2
 go_wp2_with fail
 refine (C2'.out _).mono ?_
 rintro e w2 ⟨rfl, b2⟩
 have B2 := Lib.hid (below_le B1.out b2)
 clear b2
 go_wp2_with fail
 refine (C3.out _).mono ?_
 rintro e w' ⟨rfl, rfl⟩
 go_wp2_with fail
 refine (C4.out _).mono ?_
 rintro e w' ⟨rfl, rfl⟩
 go_wp2_with fail
 refine (C5.out _).mono ?_
 rintro e w3 ⟨rfl, b3⟩
 have B3 := Lib.hid (below_le B2.out b3)
 clear b3
 go_wp2_with fail
 refine (C6.out _).mono ?_
 rintro e w4 ⟨rfl, b4⟩
 have B4 := Lib.hid (below_le B3.out b4)
 clear b4
 go_wp2_with fail
 refine (C7.out _).mono ?_
 rintro e w5 ⟨rfl, b5⟩
 have B5 := Lib.hid (below_le B4.out b5)
 clear b5
 go_wp2_with fail
 refine (C8.out _).mono ?_
 rintro e w' ⟨rfl, rfl⟩
 go_wp2
 go_ret
 exact ⟨rfl, B5.out⟩
set_option maxHeartbeats 1000000 in
theorem tInt_on (s l U V f q : ByteArray) (b : Bool) (p : Int) (Q : ByteArray → Prop) (w : World)
  (C1 : Hid (∀ W, Cp 81 #[.string s] W fun e w' => (∃ t, e = .returned (.string t) ∧ Q t) ∧ Below W.heap.size W w'))
  (C2 : Hid (∀ t, Q t → ∀ W, Ct 66 #[.string t] (.string l) W))
  (C3 : Hid (∀ W, Cq 84 #[.string l] (.tuple #[.float .f64 (sgF b : Nat), .string U]) W))
  (C5 : Hid (∀ W, Ct 87 #[.string U] (.string V) W))
  (C6 : Hid (∀ W, Ct 86 #[.string V, .int .i64 p] (.tuple #[.string f, .string q]) W))
  (t1 : f.toList.isEmpty = true)
  (a1 : ((p : Int) == 0) = false) (a2 : ((p : Int) == 16) = false) (a3 : decide (p < 2) = false) (a4 : decide (36 < p) = false)
  : Ct 32 #[.string s, .int .i64 p] (.float .f64 (nanW : Nat)) w := by
 have C8 := Lib.hid (fun W => tnan_any W)
 go_enter Tryz.func32, Tryz.ntmps32
 go_wp2_with fail
 refine (C1.out _).mono ?_
 rintro e w1 ⟨⟨t0, rfl, hq⟩, b1⟩
 have C2' := Lib.hid (C2.out t0 hq)
 have B1 := Lib.hid b1
 clear b1 hq C2
 go_wp2_with fail
 refine (C2'.out _).mono ?_
 rintro e w2 ⟨rfl, b2⟩
 have B2 := Lib.hid (below_le B1.out b2)
 clear b2
 go_wp2_with fail
 refine (C3.out _).mono ?_
 rintro e w' ⟨rfl, rfl⟩
 go_wp2_with fail
 refine (C5.out _).mono ?_
 rintro e w3 ⟨rfl, b3⟩
 have B3 := Lib.hid (below_le B2.out b3)
 clear b3
 go_wp2_with fail
 refine (C6.out _).mono ?_
 rintro e w4 ⟨rfl, b4⟩
 have B4 := Lib.hid (below_le B3.out b4)
 clear b4
 go_wp2_with fail
 refine (C8.out _).mono ?_
 rintro e w' ⟨rfl, rfl⟩
 go_wp2
 go_ret
 exact ⟨rfl, B4.out⟩
set_option maxHeartbeats 1000000 in
theorem tInt_ov (s l U V f q : ByteArray) (b : Bool) (p : Int) (F : Nat) (Q : ByteArray → Prop) (w : World)
  (C1 : Hid (∀ W, Cp 81 #[.string s] W fun e w' => (∃ t, e = .returned (.string t) ∧ Q t) ∧ Below W.heap.size W w'))
  (C2 : Hid (∀ t, Q t → ∀ W, Ct 66 #[.string t] (.string l) W))
  (C3 : Hid (∀ W, Cq 84 #[.string l] (.tuple #[.float .f64 (sgF b : Nat), .string U]) W))
  (C5 : Hid (∀ W, Ct 87 #[.string U] (.string V) W))
  (C6 : Hid (∀ W, Ct 86 #[.string V, .int .i64 p] (.tuple #[.string f, .string q]) W))
  (C7 : Hid (∀ W, Ct 89 #[.string f, .int .i64 p] (.float .f64 F) W))
  (hF : F < 9223372036854775808) (t1 : f.toList.isEmpty = false)
  (a1 : ((p : Int) == 0) = false) (a2 : ((p : Int) == 16) = false) (a3 : decide (p < 2) = false) (a4 : decide (36 < p) = false)
  : Ct 32 #[.string s, .int .i64 p] (.float .f64 (sgW b F : Nat)) w := by
 have C8 := Lib.hid (fun W => tcopysign_any F b W hF)
 clear hF
 go_enter Tryz.func32, Tryz.ntmps32
 go_wp2_with fail
 refine (C1.out _).mono ?_
 rintro e w1 ⟨⟨t0, rfl, hq⟩, b1⟩
 have C2' := Lib.hid (C2.out t0 hq)
 have B1 := Lib.hid b1
 clear b1 hq C2
 go_wp2_with fail
 refine (C2'.out _).mono ?_
 rintro e w2 ⟨rfl, b2⟩
 have B2 := Lib.hid (below_le B1.out b2)
 clear b2
 go_wp2_with fail
 refine (C3.out _).mono ?_
 rintro e w' ⟨rfl, rfl⟩
 go_wp2_with fail
 refine (C5.out _).mono ?_
 rintro e w3 ⟨rfl, b3⟩
 have B3 := Lib.hid (below_le B2.out b3)
 clear b3
 go_wp2_with fail
 refine (C6.out _).mono ?_
 rintro e w4 ⟨rfl, b4⟩
 have B4 := Lib.hid (below_le B3.out b4)
 clear b4
 go_wp2_with fail
 refine (C7.out _).mono ?_
 rintro e w5 ⟨rfl, b5⟩
 have B5 := Lib.hid (below_le B4.out b5)
 clear b5
 go_wp2_with fail
 refine (C8.out _).mono ?_
 rintro e w' ⟨rfl, rfl⟩
 go_wp2
 go_ret
 exact ⟨rfl, B5.out⟩
set_option maxHeartbeats 1000000 in
theorem tInt_bad1 (s l U : ByteArray) (b : Bool) (p : Int) (Q : ByteArray → Prop) (w : World)
  (C1 : Hid (∀ W, Cp 81 #[.string s] W fun e w' => (∃ t, e = .returned (.string t) ∧ Q t) ∧ Below W.heap.size W w'))
  (C2 : Hid (∀ t, Q t → ∀ W, Ct 66 #[.string t] (.string l) W))
  (C3 : Hid (∀ W, Cq 84 #[.string l] (.tuple #[.float .f64 (sgF b : Nat), .string U]) W))
  (a1 : ((p : Int) == 0) = false) (a2 : ((p : Int) == 16) = false) (a3 : decide (p < 2) = true)
  : Ct 32 #[.string s, .int .i64 p] (.float .f64 (nanW : Nat)) w := by
 have C8 := Lib.hid (fun W => tnan_any W)
 go_enter Tryz.func32, Tryz.ntmps32
 go_wp2_with fail
 refine (C1.out _).mono ?_
 rintro e w1 ⟨⟨t0, rfl, hq⟩, b1⟩
 have C2' := Lib.hid (C2.out t0 hq)
 have B1 := Lib.hid b1
 clear b1 hq C2
 go_wp2_with fail
 refine (C2'.out _).mono ?_
 rintro e w2 ⟨rfl, b2⟩
 have B2 := Lib.hid (below_le B1.out b2)
 clear b2
 go_wp2_with fail
 refine (C3.out _).mono ?_
 rintro e w' ⟨rfl, rfl⟩
 go_wp2_with fail
 refine (C8.out _).mono ?_
 rintro e w' ⟨rfl, rfl⟩
 go_wp2
 go_ret
 exact ⟨rfl, B2.out⟩
set_option maxHeartbeats 1000000 in
theorem tInt_bad2 (s l U : ByteArray) (b : Bool) (p : Int) (Q : ByteArray → Prop) (w : World)
  (C1 : Hid (∀ W, Cp 81 #[.string s] W fun e w' => (∃ t, e = .returned (.string t) ∧ Q t) ∧ Below W.heap.size W w'))
  (C2 : Hid (∀ t, Q t → ∀ W, Ct 66 #[.string t] (.string l) W))
  (C3 : Hid (∀ W, Cq 84 #[.string l] (.tuple #[.float .f64 (sgF b : Nat), .string U]) W))
  (a1 : ((p : Int) == 0) = false) (a2 : ((p : Int) == 16) = false) (a3 : decide (p < 2) = false) (a4 : decide (36 < p) = true)
  : Ct 32 #[.string s, .int .i64 p] (.float .f64 (nanW : Nat)) w := by
 have C8 := Lib.hid (fun W => tnan_any W)
 go_enter Tryz.func32, Tryz.ntmps32
 go_wp2_with fail
 refine (C1.out _).mono ?_
 rintro e w1 ⟨⟨t0, rfl, hq⟩, b1⟩
 have C2' := Lib.hid (C2.out t0 hq)
 have B1 := Lib.hid b1
 clear b1 hq C2
 go_wp2_with fail
 refine (C2'.out _).mono ?_
 rintro e w2 ⟨rfl, b2⟩
 have B2 := Lib.hid (below_le B1.out b2)
 clear b2
 go_wp2_with fail
 refine (C3.out _).mono ?_
 rintro e w' ⟨rfl, rfl⟩
 go_wp2_with fail
 refine (C8.out _).mono ?_
 rintro e w' ⟨rfl, rfl⟩
 go_wp2
 go_ret
 exact ⟨rfl, B2.out⟩

end Go.Proofs.YtfcpkdafkmohkaaGreatDoor
namespace Go.Proofs.YtfcpkdafkmohkaaGreatDoor
open Go.RowKit
theorem natV_fin (r : Nat) (l : List Nat) : natV r l < 9223372036854775808 := by
 have := decR_fin (num r l) 0
 unfold natV
 omega
theorem hxS_other {l : List Nat} {p : Int} (h1 : p ≠ 0) (h2 : p ≠ 16) : hxS l p = false := by
 unfold hxS
 rw [beq_eq_false_iff_ne.2 h1, beq_eq_false_iff_ne.2 h2]
 rfl
theorem hxS_zero (l : List Nat) : hxS l 0 = hxA l := by unfold hxS; simp
theorem hxS_hex (l : List Nat) : hxS l 16 = hxA l := by unfold hxS; simp
theorem tInt_in (T : List Nat) (r : Nat) (h2 : 2 ≤ r) (h36 : r ≤ 36) (hT : ∀ c ∈ T, c < 128) (hTl : T.length ≤ 140737488355328) :
  (∀ W, Ct 87 #[.string (strOf T)] (.string (strOf (T.map lowC))) W) ∧
  (∀ W, Ct 86 #[.string (strOf (T.map lowC)), .int .i64 r] (.tuple #[.string (strOf ((T.takeWhile (dgq r)).map lowC)), .string (strOf ((T.dropWhile (dgq r)).map lowC))]) W) ∧
  (T.takeWhile (dgq r) ≠ [] → ∀ W, Ct 89 #[.string (strOf ((T.takeWhile (dgq r)).map lowC)), .int .i64 r] (.float .f64 (natV r (T.takeWhile (dgq r)))) W) := by
 refine ⟨fun W => lower_str T W hT hTl, fun W => cut_low T r W h36 hT hTl, fun h0 W => ?_⟩
 have hs : ∀ c ∈ T.takeWhile (dgq r), c < 128 := fun c hc => hT c ((List.takeWhile_sublist _).subset hc)
 have hlen : (T.takeWhile (dgq r)).length ≤ T.length := (List.takeWhile_sublist _).length_le
 have := twhole_any ((T.takeWhile (dgq r)).map lowC) r W h2 h36 (by simpa using h0) (by
  intro c hc
  obtain ⟨d, hd2, rfl⟩ := List.mem_map.1 hc
  rw [dgt_low]
  exact take_dgq r T d hd2) (low_lt hs) (by rw [List.length_map]; omega)
 rw [natV_low] at this
 exact this
theorem tInt_any (s : ByteArray) (p : Int) (w : World) (hs : s.size ≤ 140737488355328) :
  Ct 32 #[.string s, .int .i64 p] (.float .f64 (intW (nrw 0 (ahL (us s))) p)) w := by
 have C1 := Lib.hid (fun W => ttrimStart_any s W hs)
 obtain ⟨l, hll⟩ : ∃ l, nrw 0 (ahL (us s)) = l := ⟨_, rfl⟩
 have hl : ∀ c ∈ l, c < 128 := by rw [← hll]; exact nrw_lt (by omega) _
 have hln : l.length ≤ 140737488355328 := by
  rw [← hll, nrw_len]
  have h1 : (ahL (us s)).length ≤ (us s).length := (List.dropWhile_sublist _).length_le
  rw [us_length] at h1
  have := ln_le s
  omega
 have hb : ∀ c ∈ l, c < 256 := fun c hc => Nat.lt_trans (hl c hc) (by omega)
 have C1' : Hid (∀ W, Cp 81 #[.string s] W fun e w' => (∃ t, e = .returned (.string t) ∧ (us t = ahL (us s) ∧ t.size ≤ s.size)) ∧ Below W.heap.size W w') := C1
 have C2 : Hid (∀ t, (us t = ahL (us s) ∧ t.size ≤ s.size) → ∀ W, Ct 66 #[.string t] (.string (strOf l)) W) := Lib.hid (fun t h W => by
  have := tnarrow_any t W (by omega)
  rw [h.1, hll] at this
  exact this)
 have C3 : ∀ W, Cq 84 #[.string (strOf l)] (.tuple #[.float .f64 (sgF (sgnB l) : Nat), .string (strOf (unsg l))]) W := by
  intro W
  have := tcutSign_any (strOf l) W
  rw [bl_strOf hb] at this
  exact this
 rw [hll]
 obtain ⟨U, hU⟩ : ∃ U, unsg l = U := ⟨_, rfl⟩
 have hUl : ∀ c ∈ U, c < 128 := fun c hc => hl c (unsg_sub c (by rw [hU]; exact hc))
 have hUb : ∀ c ∈ U, c < 256 := fun c hc => Nat.lt_trans (hUl c hc) (by omega)
 have hUn : U.length ≤ 140737488355328 := by rw [← hU]; exact Nat.le_trans (unsg_len l) hln
 have hTl : ∀ c ∈ U.drop 2, c < 128 := fun c hc => hUl c (List.mem_of_mem_drop hc)
 have hTn : (U.drop 2).length ≤ 140737488355328 := by rw [List.length_drop]; omega
 rw [hU] at C3
 have C4 : ∀ W, Cq 85 #[.string (strOf U)] (.tuple #[.string (strOf (if hxA U = true then U.drop 2 else U)), .bool (hxA U)]) W := by
  intro W
  have := tcutHex_any (strOf U) W
  rw [bl_strOf hUb] at this
  exact this
 unfold intW
 rw [hU]
 have em : ∀ L : List Nat, L = [] → (strOf (L.map lowC)).toList.isEmpty = true := fun L h => by rw [h]; exact em_str
 have ne : ∀ L : List Nat, L ≠ [] → (strOf (L.map lowC)).toList.isEmpty = false := fun L h => (str_ne (by simpa using h)).2
 by_cases h0 : p = 0
 ·subst h0
  cases hx : hxA U
  ·rw [hx] at C4
   simp only [Bool.false_eq_true, if_false] at C4
   obtain ⟨k1, k2, k3⟩ := tInt_in U 10 (by omega) (by omega) hUl hUn
   have eR : inR U 0 = 10 := by unfold inR; rw [hxS_zero, hx]; rfl
   have eF : inF U 0 = U.takeWhile (dgq 10) := by unfold inF inT; rw [eR, hxS_zero, hx]; rfl
   rw [eR, eF, if_neg (by omega)]
   by_cases hf : U.takeWhile (dgq 10) = []
   ·rw [if_pos hf]
    exact tInt_z0n _ _ _ (strOf U) _ _ _ _ _ w C1' C2 (Lib.hid C3) (Lib.hid C4) (Lib.hid k1) (Lib.hid k2) (em _ hf)
   ·rw [if_neg hf]
    exact tInt_z0v _ _ _ (strOf U) _ _ _ _ _ _ w C1' C2 (Lib.hid C3) (Lib.hid C4) (Lib.hid k1) (Lib.hid k2) (Lib.hid (k3 hf)) (natV_fin _ _) (ne _ hf)
  ·rw [hx] at C4
   simp only [if_true] at C4
   obtain ⟨k1, k2, k3⟩ := tInt_in (U.drop 2) 16 (by omega) (by omega) hTl hTn
   have eR : inR U 0 = 16 := by unfold inR; rw [hxS_zero, hx]; rfl
   have eF : inF U 0 = (U.drop 2).takeWhile (dgq 16) := by unfold inF inT; rw [eR, hxS_zero, hx]; rfl
   rw [eR, eF, if_neg (by omega)]
   by_cases hf : (U.drop 2).takeWhile (dgq 16) = []
   ·rw [if_pos hf]
    exact tInt_z1n _ _ _ _ _ _ _ _ _ w C1' C2 (Lib.hid C3) (Lib.hid C4) (Lib.hid k1) (Lib.hid k2) (em _ hf)
   ·rw [if_neg hf]
    exact tInt_z1v _ _ _ _ _ _ _ _ _ _ w C1' C2 (Lib.hid C3) (Lib.hid C4) (Lib.hid k1) (Lib.hid k2) (Lib.hid (k3 hf)) (natV_fin _ _) (ne _ hf)
 ·by_cases h16 : p = 16
  ·subst h16
   cases hx : hxA U
   ·rw [hx] at C4
    simp only [Bool.false_eq_true, if_false] at C4
    obtain ⟨k1, k2, k3⟩ := tInt_in U 16 (by omega) (by omega) hUl hUn
    have eR : inR U 16 = 16 := by unfold inR; rw [hxS_hex, hx]; rfl
    have eF : inF U 16 = U.takeWhile (dgq 16) := by unfold inF inT; rw [eR, hxS_hex, hx]; rfl
    rw [eR, eF, if_neg (by omega)]
    by_cases hf : U.takeWhile (dgq 16) = []
    ·rw [if_pos hf]
     exact tInt_s0n _ _ _ (strOf U) _ _ _ _ _ w C1' C2 (Lib.hid C3) (Lib.hid C4) (Lib.hid k1) (Lib.hid k2) (em _ hf)
    ·rw [if_neg hf]
     exact tInt_s0v _ _ _ (strOf U) _ _ _ _ _ _ w C1' C2 (Lib.hid C3) (Lib.hid C4) (Lib.hid k1) (Lib.hid k2) (Lib.hid (k3 hf)) (natV_fin _ _) (ne _ hf)
   ·rw [hx] at C4
    simp only [if_true] at C4
    obtain ⟨k1, k2, k3⟩ := tInt_in (U.drop 2) 16 (by omega) (by omega) hTl hTn
    have eR : inR U 16 = 16 := by unfold inR; rw [hxS_hex, hx]; rfl
    have eF : inF U 16 = (U.drop 2).takeWhile (dgq 16) := by unfold inF inT; rw [eR, hxS_hex, hx]; rfl
    rw [eR, eF, if_neg (by omega)]
    by_cases hf : (U.drop 2).takeWhile (dgq 16) = []
    ·rw [if_pos hf]
     exact tInt_s1n _ _ _ _ _ _ _ _ _ w C1' C2 (Lib.hid C3) (Lib.hid C4) (Lib.hid k1) (Lib.hid k2) (em _ hf)
    ·rw [if_neg hf]
     exact tInt_s1v _ _ _ _ _ _ _ _ _ _ w C1' C2 (Lib.hid C3) (Lib.hid C4) (Lib.hid k1) (Lib.hid k2) (Lib.hid (k3 hf)) (natV_fin _ _) (ne _ hf)
  ·have hx := hxS_other (l := U) h0 h16
   have eR : inR U p = p := by unfold inR; rw [hx, if_neg (by simp), if_neg h0]
   have eF : inF U p = U.takeWhile (dgq p.toNat) := by unfold inF inT; rw [eR, hx]; rfl
   have b0 : (p == 0) = false := beq_eq_false_iff_ne.2 h0
   have b1 : (p == 16) = false := beq_eq_false_iff_ne.2 h16
   rw [eR, eF]
   by_cases h2 : p < 2
   ·rw [if_pos (Or.inl h2)]
    exact tInt_bad1 _ _ _ _ _ _ w C1' C2 (Lib.hid C3) b0 b1 (decide_eq_true h2)
   ·by_cases h36 : 36 < p
    ·rw [if_pos (Or.inr h36)]
     exact tInt_bad2 _ _ _ _ _ _ w C1' C2 (Lib.hid C3) b0 b1 (decide_eq_false h2) (decide_eq_true h36)
    ·rw [if_neg (by omega)]
     obtain ⟨r, hr⟩ : ∃ r : Nat, p = (r : Int) := ⟨p.toNat, by omega⟩
     subst hr
     rw [Int.toNat_natCast]
     obtain ⟨k1, k2, k3⟩ := tInt_in U r (by omega) (by omega) hUl hUn
     by_cases hf : U.takeWhile (dgq r) = []
     ·rw [if_pos hf]
      exact tInt_on _ _ _ _ _ _ _ _ _ w C1' C2 (Lib.hid C3) (Lib.hid k1) (Lib.hid k2) (em _ hf) b0 b1 (decide_eq_false h2) (decide_eq_false h36)
     ·rw [if_neg hf]
      exact tInt_ov _ _ _ _ _ _ _ _ _ _ w C1' C2 (Lib.hid C3) (Lib.hid k1) (Lib.hid k2) (Lib.hid (k3 hf)) (natV_fin _ _) (ne _ hf) b0 b1 (decide_eq_false h2) (decide_eq_false h36)

end Go.Proofs.YtfcpkdafkmohkaaGreatDoor
namespace Go.Proofs.YtfcpkdafkmohkaaGreatDoor
open Go.RowKit
def nr1 (u : Nat) : Nat := if 127 < u then 1 else u
theorem nr1_lt (u : Nat) : nr1 u < 128 := by unfold nr1; split <;> omega
set_option maxRecDepth 100000 in
set_option maxHeartbeats 1000000 in
theorem ybytes_any (s : ByteArray) (w : World) (hs : s.size ≤ 140737488355328) :
  Ct 70 #[.string s] (.string (strOf (nrw 1 (us s)))) w := by
 obtain ⟨i0, hi, hz0, hz1, hz2⟩ := info_parts infoB
 have hl := ln_le s
 have hs63 : s.size ≤ maxLen := by unfold maxLen; omega
 have hm : ((ln s : Nat) : Int) ≤ 70368744177664 := by omega
 have C1 := Lib.hid (fun W => rlen_any s W hs63)
 have C2 := Lib.hid (fun i W => runit_any s i W hs63)
 have HS := Lib.hid (show ln s ≤ 70368744177664 by omega)
 clear hl hs hs63
 go_enter Tryz.func70, Tryz.ntmps70
 go_wp2
 go_loopw [3, 4] (fun v i wr => ∃ k : Nat, i = .int .i64 k ∧ k ≤ ln s ∧ Hid (Own w.heap.size ((((us s).take k).map nr1).map UInt8.ofNat) v wr) ∧ Hid (Below w.heap.size w wr)) (fun _ i _ => ln s - (intOf i).toNat)
 case atStart => exact ⟨0, rfl, Nat.zero_le _, Lib.hid (Own.nil _ _), Lib.hid (Below.refl _ _)⟩
 case round =>
  obtain ⟨k, rfl, hk, HO, HB⟩ := hrel
  by_cases hlt : k < ln s
  ·have C2k := Lib.hid (C2.out (k : Int) wr)
   have hok : unOk s (k : Int) = true := by unfold unOk; rw [decide_eq_true (by omega), decide_eq_true (by omega)]; rfl
   have hv : unV s (k : Int) = un s k := by unfold unV; rw [hok, if_pos rfl, Int.toNat_natCast]
   rw [hok, hv] at C2k
   have hul := un_lt s k
   have HST := Lib.hid (us_take_succ s k hlt)
   obtain ⟨u, hu⟩ : ∃ u, un s k = u := ⟨_, rfl⟩
   rw [hu] at hul HST C2k
   have a2 : (k : Int) < (ln s : Int) := by omega
   clear hok hv hu
   have hc1 := nr1_lt u
   have KEY := Lib.hid (show ∀ v' w2, w2.ownsRow w.heap.size 5 1 v' (((((us s).take k).map nr1).map UInt8.ofNat).length + 1) (Lib.byteCells ((((us s).take k).map nr1).map UInt8.ofNat) ++ [.int .u8 (nr1 u : Nat)]) → Own w.heap.size ((((us s).take (k + 1)).map nr1).map UInt8.ofNat) v' w2 from fun v' w2 h => by
    rw [cells_snoc _ _ (by omega)] at h
    rw [Own, HST.out, List.map_append, List.map_append]
    simpa using h)
   by_cases hb : 127 < u
   ·have t1 : decide ((127 : Int) < (u : Int)) = true := decide_eq_true (by omega)
    have e0 : nr1 u = 1 := if_pos hb
    rw [e0] at KEY
    go_wp2_with fail
    refine (C1.out _).mono ?_
    rintro e w' ⟨rfl, rfl⟩
    go_wp2_with fail
    refine C2k.out.mono ?_
    rintro e w' ⟨rfl, n, rfl⟩
    have HOn := own_drewN HO.out n
    have hBn : w.heap.size ≤ (wr.drewN n).heap.size := HB.out.size
    have HBn := Lib.hid (below_drewN' HB.out n)
    generalize wr.drewN n = wn at *
    go_wp2_with (at_builtin; refine wpList_append_own _ rfl _ _ 85 rfl w.heap.size 5 i0 (.int .u8 0) 1 1 Tryz.underlying85 hi hz0 hz1 hz2 rfl (by decide) _ ((((us s).take k).map nr1).map UInt8.ofNat).length (Lib.byteCells ((((us s).take k).map nr1).map UInt8.ofNat)) rfl (World.ownsRow.alloc (w := wn) HOn _) ⟨wn.heap.size, 0, none⟩ 1 1 [.int .u8 1] rfl rfl ?c1 ?c2 ?c3 ?c4 ?c5 ?_)
    case c1 => exact (cell_one_new _ _ _)
    case c2 => simp [Value.oneCell']
    case c3 => rw [List.length_map, List.length_map, List.length_take]; have := HS.out; unfold maxLen; omega
    case c4 => rw [List.length_map, List.length_map, List.length_take]; have := HS.out; omega
    case c5 => simp; omega
    intro v' w2 hown hgr _
    have HO2 := Lib.hid (KEY.out v' w2 (by simpa using hown))
    have HB2 := Lib.hid (HBn.out.trans (((Below.refl _ _).alloc hBn _).grown hgr (by simp; omega) (fun j hj => (HOn.lt j hj).1)))
    clear hown hgr
    go_wp2
    exact ⟨⟨k + 1, by go_num, by omega, HO2, HB2⟩, by simp [intOf]; omega⟩
   ·have t1 : decide ((127 : Int) < (u : Int)) = false := decide_eq_false (by omega)
    have e0 : nr1 u = u := if_neg hb
    rw [e0] at KEY
    have k1 : IntKind.u8.wrap (u : Int) = (u : Int) := IntWalk.u8_in _ (by omega)
    go_wp2_with fail
    refine (C1.out _).mono ?_
    rintro e w' ⟨rfl, rfl⟩
    go_wp2_with fail
    refine C2k.out.mono ?_
    rintro e w' ⟨rfl, n, rfl⟩
    have HOn := own_drewN HO.out n
    have hBn : w.heap.size ≤ (wr.drewN n).heap.size := HB.out.size
    have HBn := Lib.hid (below_drewN' HB.out n)
    generalize wr.drewN n = wn at *
    go_wp2_with (at_builtin; refine wpList_append_own _ rfl _ _ 85 rfl w.heap.size 5 i0 (.int .u8 0) 1 1 Tryz.underlying85 hi hz0 hz1 hz2 rfl (by decide) _ ((((us s).take k).map nr1).map UInt8.ofNat).length (Lib.byteCells ((((us s).take k).map nr1).map UInt8.ofNat)) rfl (World.ownsRow.alloc (w := wn) HOn _) ⟨wn.heap.size, 0, none⟩ 1 1 [.int .u8 (u : Nat)] rfl rfl ?c1 ?c2 ?c3 ?c4 ?c5 ?_)
    case c1 => exact (cell_one_new _ _ _)
    case c2 => simp [Value.oneCell']
    case c3 => rw [List.length_map, List.length_map, List.length_take]; have := HS.out; unfold maxLen; omega
    case c4 => rw [List.length_map, List.length_map, List.length_take]; have := HS.out; omega
    case c5 => simp; omega
    intro v' w2 hown hgr _
    have HO2 := Lib.hid (KEY.out v' w2 (by simpa using hown))
    have HB2 := Lib.hid (HBn.out.trans (((Below.refl _ _).alloc hBn _).grown hgr (by simp; omega) (fun j hj => (HOn.lt j hj).1)))
    clear hown hgr
    go_wp2
    exact ⟨⟨k + 1, by go_num, by omega, HO2, HB2⟩, by simp [intOf]; omega⟩
  ·obtain ⟨T, hT⟩ : ∃ T, (((us s).take k).map nr1).map UInt8.ofNat = T := ⟨_, rfl⟩
   have hcv := own_string HO.out
   rw [hT] at hcv
   have HZ := Lib.hid (show (⟨T.toArray⟩ : ByteArray) = strOf (nrw 1 (us s)) from by
    rw [← hT, show (us s).take k = us s by rw [show k = ln s by omega, us_take_all]]
    rfl)
   clear hT HO
   go_wp2_with fail
   refine (C1.out _).mono ?_
   rintro e w' ⟨rfl, rfl⟩
   go_wp2
   go_ret
   exact ⟨by rw [← HZ.out]; rfl, HB.out⟩
theorem ydigit_any (c : Nat) (w : World) : Cq 73 #[.int .u8 c] (.bool (dg10 c)) w := by
 by_cases h1 : 48 ≤ c
 ·by_cases h2 : c ≤ 57
  ·have t1 : decide ((48 : Int) ≤ (c : Int)) = true := decide_eq_true (by omega)
   have t2 : decide ((c : Int) ≤ 57) = true := decide_eq_true (by omega)
   rw [dg10_iff.2 ⟨h1, h2⟩]
   clear h1 h2
   go_enter Tryz.func73, Tryz.ntmps73
   go_wp2
   go_ret
   exact ⟨rfl, rfl⟩
  ·have t1 : decide ((48 : Int) ≤ (c : Int)) = true := decide_eq_true (by omega)
   have t2 : decide ((c : Int) ≤ 57) = false := decide_eq_false (by omega)
   rw [dg10_not.2 (fun h => h2 h.2)]
   clear h1 h2
   go_enter Tryz.func73, Tryz.ntmps73
   go_wp2
   go_ret
   exact ⟨rfl, rfl⟩
 ·have t1 : decide ((48 : Int) ≤ (c : Int)) = false := decide_eq_false (by omega)
  rw [dg10_not.2 (fun h => h1 h.1)]
  clear h1
  go_enter Tryz.func73, Tryz.ntmps73
  go_wp2
  go_ret
  exact ⟨rfl, rfl⟩

end Go.Proofs.YtfcpkdafkmohkaaGreatDoor
namespace Go.Proofs.YtfcpkdafkmohkaaGreatDoor
open Go.RowKit
theorem bln_ten1 : bln 10 = 4 := by decide
set_option maxRecDepth 100000 in
set_option maxHeartbeats 1000000 in
theorem ypow_any (n : Nat) (w : World) (hn : n ≤ 3000) : Cp 115 #[.int .i64 n] w (NRet (10 ^ n) w) := by
 have hn1 : (n : Int) ≤ 3000 := by omega
 have N0 := Lib.hid (NV.lit w 1 (by omega) (by omega))
 have B0 := Lib.hid (show Below w.heap.size w (w.alloc (.cells #[.int .u32 1] 42)) from (Below.refl _ _).alloc (Nat.le_refl _) _)
 go_enter Tryz.func115, Tryz.ntmps115
 go_wp2
 go_loopw [3, 4] (fun v i wr => ∃ (k : Nat) (A : Option Addr) (m c : Nat), i = .int .i64 k ∧ k ≤ n ∧ v = .slice A m c ∧ Hid (NV wr A m c (10 ^ k)) ∧ Hid (Below w.heap.size w wr)) (fun _ i _ => n - (intOf i).toNat)
 case atStart => exact ⟨0, _, _, _, rfl, Nat.zero_le _, rfl, N0, B0⟩
 case round =>
  obtain ⟨k, A, m, c, rfl, hk, rfl, HV, HB⟩ := hrel
  by_cases hlt : k < n
  ·have hlt' : (k : Int) < (n : Int) := by omega
   have hb := bln_ten k
   have b1 : Below wr.heap.size wr (wr.alloc (.cells #[.int .u32 10] 42)) := (Below.refl _ _).alloc (Nat.le_refl _) _
   have C1 := Lib.hid (rntimes (HV.out.step b1) (NV.lit wr 10 (by omega) (by omega)) (by omega) (by rw [bln_ten1]; omega))
   have HB1 := Lib.hid (below_le HB.out b1)
   rw [← Nat.pow_succ] at C1
   clear hb b1
   go_wp2_with fail
   refine C1.out.mono ?_
   rintro e w2 ⟨A2, m2, c2, rfl, g2, b2⟩
   have G2 := Lib.hid g2
   have HB2 := Lib.hid (below_le HB1.out b2)
   clear g2 b2
   go_wp2
   exact ⟨⟨k + 1, A2, m2, c2, by go_num, by omega, rfl, G2, HB2⟩, by simp [intOf]; omega⟩
  ·have HZ := Lib.hid (show k = n by omega)
   go_wp2
   go_ret
   exact ⟨A, m, c, rfl, by rw [← HZ.out]; exact HV.out, HB.out⟩
theorem drop_cons (l : List Nat) (k : Nat) (h : k < l.length) : l.drop k = l[k] :: l.drop (k + 1) := List.drop_eq_getElem_cons h
theorem run10_yes {c : Nat} {t : List Nat} (h : dg10 c = true) : run10 (c :: t) = c :: run10 t := List.takeWhile_cons_of_pos h
theorem run10_no {c : Nat} {t : List Nat} (h : dg10 c = false) : run10 (c :: t) = [] := List.takeWhile_cons_of_neg (by rw [h]; simp)
set_option maxRecDepth 100000 in
set_option maxHeartbeats 1000000 in
theorem yrun_any (s : ByteArray) (at' : Nat) (w : World) (hs : s.size ≤ 140737488355328) (ha : at' ≤ 140737488355328) :
  Cq 137 #[.string s, .int .i64 at'] (.int .i64 ((run10 ((bl s).drop at')).length : Nat)) w := by
 have h1 : (s.size : Int) ≤ 140737488355328 := by omega
 have h2 : (at' : Int) ≤ 140737488355328 := by omega
 have C1 := Lib.hid (fun c W => ydigit_any c W)
 obtain ⟨R, hR⟩ : ∃ R, (run10 ((bl s).drop at')).length = R := ⟨_, rfl⟩
 rw [hR]
 have HR := Lib.hid hR
 have HL := Lib.hid (bl_size s)
 clear hs ha hR
 go_enter Tryz.func137, Tryz.ntmps137
 go_wp2
 go_loopw [5] (fun i wr => ∃ j : Nat, i = .int .i64 j ∧ Hid (R = j + (run10 ((bl s).drop (at' + j))).length ∧ (j = 0 ∨ at' + j ≤ s.size)) ∧ w = wr) (fun i _ => s.size - (intOf i).toNat)
 case atStart => exact ⟨0, rfl, Lib.hid ⟨by rw [Nat.add_zero, Nat.zero_add, HR.out], Or.inl rfl⟩, rfl⟩
 case round =>
  obtain ⟨j, rfl, HJ, rfl⟩ := hrel
  have hj : (j : Int) ≤ 140737488355328 := by rcases HJ.out.2 with h | h <;> omega
  have k1 : IntKind.i64.wrap ((at' : Int) + (j : Int)) = (at' : Int) + (j : Int) := IntWalk.i64_in _ (by omega)
  by_cases hlt : at' + j < s.size
  ·obtain ⟨B, hB⟩ : ∃ B : Nat, (s[at' + j]'hlt).toNat = B := ⟨_, rfl⟩
   have hll : at' + j < (bl s).length := by rw [HL.out]; exact hlt
   have hget : (bl s)[at' + j] = B := by
    have := bl_get s (at' + j) hlt
    rw [List.getElem?_eq_getElem hll, hB] at this
    exact Option.some.inj this
   have hd := drop_cons (bl s) (at' + j) hll
   rw [hget] at hd
   have a3 : ((s[at' + j]'hlt).toNat : Int) = (B : Int) := by rw [hB]
   have t0 : decide ((at' : Int) + (j : Int) < (s.size : Int)) = true := decide_eq_true (by omega)
   have a1 : (0 : Int) ≤ (at' : Int) + (j : Int) := by omega
   have a2 : (at' : Int) + (j : Int) < (s.size : Int) := by omega
   have a4 : ((at' : Int) + (j : Int)).toNat = at' + j := by omega
   have C2 := Lib.hid (C1.out B)
   cases hg : dg10 B
   ·rw [hg] at C2
    have HE := Lib.hid (show R = j from by have := HJ.out.1; rw [hd, run10_no hg] at this; exact this)
    clear hget hd hB hg hll
    go_wp2_with fail
    refine (C2.out _).mono ?_
    rintro e w' ⟨rfl, rfl⟩
    go_wp2
    go_ret
    exact ⟨by rw [HE.out]; rfl, rfl⟩
   ·rw [hg] at C2
    have HE := Lib.hid (show R = (j + 1) + (run10 ((bl s).drop (at' + (j + 1)))).length ∧ (j + 1 = 0 ∨ at' + (j + 1) ≤ s.size) from by
     have := HJ.out.1
     rw [hd, run10_yes hg, List.length_cons] at this
     exact ⟨by rw [← Nat.add_assoc]; omega, Or.inr (by omega)⟩)
    clear hget hd hB hg hll
    go_wp2_with fail
    refine (C2.out _).mono ?_
    rintro e w' ⟨rfl, rfl⟩
    go_wp2
    exact ⟨⟨j + 1, by go_num, HE, trivial⟩, by simp [intOf]; omega⟩
  ·have HE := Lib.hid (show R = j from by
    have := HJ.out.1
    rw [List.drop_eq_nil_iff.2 (by rw [HL.out]; omega)] at this
    exact this)
   have t0 : decide ((at' : Int) + (j : Int) < (s.size : Int)) = false := decide_eq_false (by omega)
   go_wp2
   go_ret
   exact ⟨by rw [HE.out]; rfl, rfl⟩

end Go.Proofs.YtfcpkdafkmohkaaGreatDoor
namespace Go.Proofs.YtfcpkdafkmohkaaGreatDoor
open Go.RowKit
set_option maxRecDepth 100000 in
set_option maxHeartbeats 2000000 in
theorem ydec_none (s : ByteArray) (K N : Nat) (X : Int) (w : World) (hs : s.size ≤ 281474976710656) (hK : K ≤ s.size) (hN : s.size - K = N)
  (Z1 : Hid (∀ k (h : k < s.size), k < K → (s[k]'h).toNat = 48)) (Z2 : Hid (∀ h : K < s.size, (s[K]'h).toNat ≠ 48))
  (hN0 : N = 0) :
  Ct 104 #[.string s, .int .i64 X] (.float .f64 0) w := by
 have h1 : (s.size : Int) ≤ 281474976710656 := by omega
 have HN := Lib.hid hN
 have HK := Lib.hid hK
 subst hN0
 clear hs hK hN
 go_enter Tryz.func104, Tryz.ntmps104
 go_wp2
 go_loopw [5] (fun i wr => ∃ k : Nat, i = .int .i64 k ∧ k ≤ K ∧ w = wr) (fun i _ => K - (intOf i).toNat)
 case atStart => exact ⟨0, rfl, Nat.zero_le _, rfl⟩
 case round =>
  obtain ⟨k, rfl, hk, rfl⟩ := hrel
  have hk2 := HK.out
  by_cases hlt : k < K
  ·have hks : k < s.size := by omega
   have e0 : ((s[k]'hks).toNat : Int) = 48 := by rw [Z1.out k hks hlt]; rfl
   have a2 : (k : Int) < (s.size : Int) := by omega
   have a1 : (0 : Int) ≤ (k : Int) := by omega
   clear hk2
   go_wp2
   exact ⟨⟨k + 1, by go_num, by omega, trivial⟩, by simp [intOf]; omega⟩
  ·obtain rfl : k = K := by omega
   have a2 : (s.size : Int) = (k : Int) := by have := HN.out; omega
   have a3 : (k : Int) ≤ (s.size : Int) := by omega
   have a1 : (0 : Int) ≤ (k : Int) := by omega
   have a4 : ((s.size - k : Nat) : Int) = 0 := by rw [HN.out]; rfl
   have t1 : decide ((k : Int) < (s.size : Int)) = false := decide_eq_false (by omega)
   clear hk2 a2
   go_wp2
   go_ret
   exact ⟨rfl, Below.refl _ _⟩
set_option maxRecDepth 100000 in
set_option maxHeartbeats 2000000 in
theorem ydec_high (s : ByteArray) (K N : Nat) (X P : Int) (w : World) (hs : s.size ≤ 281474976710656) (hK : K ≤ s.size) (hN : s.size - K = N)
  (Z1 : Hid (∀ k (h : k < s.size), k < K → (s[k]'h).toNat = 48)) (Z2 : Hid (∀ h : K < s.size, (s[K]'h).toNat ≠ 48))
  (hN0 : 0 < N) (p1 : wrap64 ((N : Int) + X) = P) (t0 : ((N : Int) == 0) = false) (t1 : decide (400 < P) = true) :
  Ct 104 #[.string s, .int .i64 X] (.float .f64 9218868437227405312) w := by
 have h1 : (s.size : Int) ≤ 281474976710656 := by omega
 have HN := Lib.hid hN
 have HK := Lib.hid hK
 have HN0 := Lib.hid hN0
 clear hs hK hN hN0
 go_enter Tryz.func104, Tryz.ntmps104
 go_wp2
 go_loopw [5] (fun i wr => ∃ k : Nat, i = .int .i64 k ∧ k ≤ K ∧ w = wr) (fun i _ => K - (intOf i).toNat)
 case atStart => exact ⟨0, rfl, Nat.zero_le _, rfl⟩
 case round =>
  obtain ⟨k, rfl, hk, rfl⟩ := hrel
  have hk2 := HK.out
  by_cases hlt : k < K
  ·have hks : k < s.size := by omega
   have e0 : ((s[k]'hks).toNat : Int) = 48 := by rw [Z1.out k hks hlt]; rfl
   have a2 : (k : Int) < (s.size : Int) := by omega
   have a1 : (0 : Int) ≤ (k : Int) := by omega
   clear hk2
   go_wp2
   exact ⟨⟨k + 1, by go_num, by omega, trivial⟩, by simp [intOf]; omega⟩
  ·obtain rfl : k = K := by omega
   have hz : k < s.size := by have := HN.out; have := HN0.out; omega
   obtain ⟨B, hB⟩ : ∃ B : Nat, (s[k]'hz).toNat = B := ⟨_, rfl⟩
   have hB48 := Z2.out hz
   rw [hB] at hB48
   have e0 : ((s[k]'hz).toNat : Int) = (B : Int) := by rw [hB]
   have e1 : ((B : Int) == 48) = false := by rw [beq_eq_false_iff_ne]; omega
   have a2 : (k : Int) < (s.size : Int) := by omega
   have a1 : (0 : Int) ≤ (k : Int) := by omega
   have a3 : (k : Int) ≤ (s.size : Int) := by omega
   have a4 : ((s.size - k : Nat) : Int) = (N : Int) := by rw [HN.out]
   clear hk2 hB hB48
   have C3 := Lib.hid (fun W => inf1_any W)
   go_wp2_with fail
   refine (C3.out _).mono ?_
   rintro e w' ⟨rfl, rfl⟩
   go_wp2
   go_ret
   exact ⟨rfl, Below.refl _ _⟩
set_option maxRecDepth 100000 in
set_option maxHeartbeats 2000000 in
theorem ydec_low (s : ByteArray) (K N : Nat) (X P : Int) (w : World) (hs : s.size ≤ 281474976710656) (hK : K ≤ s.size) (hN : s.size - K = N)
  (Z1 : Hid (∀ k (h : k < s.size), k < K → (s[k]'h).toNat = 48)) (Z2 : Hid (∀ h : K < s.size, (s[K]'h).toNat ≠ 48))
  (hN0 : 0 < N) (p1 : wrap64 ((N : Int) + X) = P) (t0 : ((N : Int) == 0) = false) (t1 : decide (400 < P) = false) (t2 : decide (P < -400) = true) :
  Ct 104 #[.string s, .int .i64 X] (.float .f64 0) w := by
 have h1 : (s.size : Int) ≤ 281474976710656 := by omega
 have HN := Lib.hid hN
 have HK := Lib.hid hK
 have HN0 := Lib.hid hN0
 clear hs hK hN hN0
 go_enter Tryz.func104, Tryz.ntmps104
 go_wp2
 go_loopw [5] (fun i wr => ∃ k : Nat, i = .int .i64 k ∧ k ≤ K ∧ w = wr) (fun i _ => K - (intOf i).toNat)
 case atStart => exact ⟨0, rfl, Nat.zero_le _, rfl⟩
 case round =>
  obtain ⟨k, rfl, hk, rfl⟩ := hrel
  have hk2 := HK.out
  by_cases hlt : k < K
  ·have hks : k < s.size := by omega
   have e0 : ((s[k]'hks).toNat : Int) = 48 := by rw [Z1.out k hks hlt]; rfl
   have a2 : (k : Int) < (s.size : Int) := by omega
   have a1 : (0 : Int) ≤ (k : Int) := by omega
   clear hk2
   go_wp2
   exact ⟨⟨k + 1, by go_num, by omega, trivial⟩, by simp [intOf]; omega⟩
  ·obtain rfl : k = K := by omega
   have hz : k < s.size := by have := HN.out; have := HN0.out; omega
   obtain ⟨B, hB⟩ : ∃ B : Nat, (s[k]'hz).toNat = B := ⟨_, rfl⟩
   have hB48 := Z2.out hz
   rw [hB] at hB48
   have e0 : ((s[k]'hz).toNat : Int) = (B : Int) := by rw [hB]
   have e1 : ((B : Int) == 48) = false := by rw [beq_eq_false_iff_ne]; omega
   have a2 : (k : Int) < (s.size : Int) := by omega
   have a1 : (0 : Int) ≤ (k : Int) := by omega
   have a3 : (k : Int) ≤ (s.size : Int) := by omega
   have a4 : ((s.size - k : Nat) : Int) = (N : Int) := by rw [HN.out]
   clear hk2 hB hB48
   go_wp2
   go_ret
   exact ⟨rfl, Below.refl _ _⟩
set_option maxRecDepth 100000 in
set_option maxHeartbeats 2000000 in
theorem ydec_short_pos (s : ByteArray) (K N : Nat) (X P : Int) (m F : Nat) (D M : Nat) (w : World) (hs : s.size ≤ 281474976710656) (hK : K ≤ s.size) (hN : s.size - K = N)
  (Z1 : Hid (∀ k (h : k < s.size), k < K → (s[k]'h).toNat = 48)) (Z2 : Hid (∀ h : K < s.size, (s[K]'h).toNat ≠ 48))
  (hN0 : 0 < N) (p1 : wrap64 ((N : Int) + X) = P) (t0 : ((N : Int) == 0) = false) (t1 : decide (400 < P) = false) (t2 : decide (P < -400) = false) (t3 : decide (820 < (N : Int)) = false)
  (C3 : Hid (∀ W, Cp 165 #[.string (s.extract K s.size), .int .i64 10] W (NOk m W)))
  (C4 : Hid (∀ W, Cp 115 #[.int .i64 X] W (NRet D W)))
  (C5 : Hid (∀ W A1 n1 c1 A2 n2 c2, NV W A1 n1 c1 m → NV W A2 n2 c2 D → Cp 51 #[.slice A1 n1 c1, .slice A2 n2 c2] W (NRet M W)))
  (C6 : Hid (∀ W A1 n1 c1, NV W A1 n1 c1 M → Ct 154 #[.slice A1 n1 c1, .int .i64 0] (.float .f64 F) W))
  (u0 : decide (0 ≤ X) = true) :
  Ct 104 #[.string s, .int .i64 X] (.float .f64 F) w := by
 have h1 : (s.size : Int) ≤ 281474976710656 := by omega
 have HN := Lib.hid hN
 have HK := Lib.hid hK
 have HN0 := Lib.hid hN0
 clear hs hK hN hN0
 go_enter Tryz.func104, Tryz.ntmps104
 go_wp2
 go_loopw [5] (fun i wr => ∃ k : Nat, i = .int .i64 k ∧ k ≤ K ∧ w = wr) (fun i _ => K - (intOf i).toNat)
 case atStart => exact ⟨0, rfl, Nat.zero_le _, rfl⟩
 case round =>
  obtain ⟨k, rfl, hk, rfl⟩ := hrel
  have hk2 := HK.out
  by_cases hlt : k < K
  ·have hks : k < s.size := by omega
   have e0 : ((s[k]'hks).toNat : Int) = 48 := by rw [Z1.out k hks hlt]; rfl
   have a2 : (k : Int) < (s.size : Int) := by omega
   have a1 : (0 : Int) ≤ (k : Int) := by omega
   clear hk2
   go_wp2
   exact ⟨⟨k + 1, by go_num, by omega, trivial⟩, by simp [intOf]; omega⟩
  ·obtain rfl : k = K := by omega
   have hz : k < s.size := by have := HN.out; have := HN0.out; omega
   obtain ⟨B, hB⟩ : ∃ B : Nat, (s[k]'hz).toNat = B := ⟨_, rfl⟩
   have hB48 := Z2.out hz
   rw [hB] at hB48
   have e0 : ((s[k]'hz).toNat : Int) = (B : Int) := by rw [hB]
   have e1 : ((B : Int) == 48) = false := by rw [beq_eq_false_iff_ne]; omega
   have a2 : (k : Int) < (s.size : Int) := by omega
   have a1 : (0 : Int) ≤ (k : Int) := by omega
   have a3 : (k : Int) ≤ (s.size : Int) := by omega
   have a4 : ((s.size - k : Nat) : Int) = (N : Int) := by rw [HN.out]
   clear hk2 hB hB48
   go_wp2_with fail
   refine (C3.out _).mono ?_
   rintro e w1 ⟨A1, n1, c1, rfl, g1, b1⟩
   have G1 := Lib.hid g1
   have B1 := Lib.hid b1
   clear g1 b1
   go_wp2_with fail
   refine (C4.out _).mono ?_
   rintro e w2 ⟨A2, n2, c2, rfl, g2, b2⟩
   have G2 := Lib.hid g2
   have G1a := Lib.hid (G1.out.step b2)
   have B2 := Lib.hid (below_le B1.out b2)
   clear g2 b2
   go_wp2_with fail
   refine (C5.out _ _ _ _ _ _ _ G1a.out G2.out).mono ?_
   rintro e w3 ⟨A3, n3, c3, rfl, g3, b3⟩
   have G3 := Lib.hid g3
   have B3 := Lib.hid (below_le B2.out b3)
   clear g3 b3
   go_wp2_with fail
   refine (C6.out _ _ _ _ G3.out).mono ?_
   rintro e w4 ⟨rfl, b4⟩
   have B4 := Lib.hid (below_le B3.out b4)
   clear b4
   go_wp2
   go_ret
   exact ⟨rfl, B4.out⟩
set_option maxRecDepth 100000 in
set_option maxHeartbeats 2000000 in
theorem ydec_short_neg00 (s : ByteArray) (K N : Nat) (X P : Int) (m F : Nat) (D M Q bd ba : Nat) (x1 up Y : Int) (w : World) (hs : s.size ≤ 281474976710656) (hK : K ≤ s.size) (hN : s.size - K = N)
  (Z1 : Hid (∀ k (h : k < s.size), k < K → (s[k]'h).toNat = 48)) (Z2 : Hid (∀ h : K < s.size, (s[K]'h).toNat ≠ 48))
  (hN0 : 0 < N) (p1 : wrap64 ((N : Int) + X) = P) (t0 : ((N : Int) == 0) = false) (t1 : decide (400 < P) = false) (t2 : decide (P < -400) = false) (t3 : decide (820 < (N : Int)) = false)
  (C3 : Hid (∀ W, Cp 165 #[.string (s.extract K s.size), .int .i64 10] W (NOk m W)))
  (C4 : Hid (∀ W, Cp 115 #[.int .i64 (-X)] W (NRet D W)))
  (C5 : Hid (∀ W A1 n1 c1, NV W A1 n1 c1 D → Ct 163 #[.slice A1 n1 c1] (.int .i64 (bd : Nat)) W))
  (C6 : Hid (∀ W A1 n1 c1, NV W A1 n1 c1 m → Ct 163 #[.slice A1 n1 c1] (.int .i64 (ba : Nat)) W))
  (C7 : Hid (∀ W A1 n1 c1, NV W A1 n1 c1 m → Cp 102 #[.slice A1 n1 c1, .int .i64 0] W (NRet M W)))
  (C8 : Hid (∀ W A1 n1 c1 A2 n2 c2, NV W A1 n1 c1 M → NV W A2 n2 c2 D → Cp 49 #[.slice A1 n1 c1, .slice A2 n2 c2] W (HRet M D W)))
  (C9 : Hid (∀ W A1 n1 c1, NV W A1 n1 c1 (M / D) → Cp 102 #[.slice A1 n1 c1, .int .i64 1] W (NRet Q W)))
  (C11 : Hid (∀ W A1 n1 c1, NV W A1 n1 c1 Q → Ct 154 #[.slice A1 n1 c1, .int .i64 Y] (.float .f64 F) W))
  (hrem : M % D = 0)
  (u0 : decide (0 ≤ X) = false) (u1 : wrap64 (-X) = -X) (u2 : wrap64 ((bd : Int) - (ba : Int)) = x1) (u3 : wrap64 (x1 + 70) = up) (u4 : decide (up < 0) = true) (u6 : Y = -1) :
  Ct 104 #[.string s, .int .i64 X] (.float .f64 F) w := by
 have h1 : (s.size : Int) ≤ 281474976710656 := by omega
 have HN := Lib.hid hN
 have HK := Lib.hid hK
 have HN0 := Lib.hid hN0
 have HREM := Lib.hid hrem
 subst u6
 clear hs hK hN hN0 hrem
 go_enter Tryz.func104, Tryz.ntmps104
 go_wp2
 go_loopw [5] (fun i wr => ∃ k : Nat, i = .int .i64 k ∧ k ≤ K ∧ w = wr) (fun i _ => K - (intOf i).toNat)
 case atStart => exact ⟨0, rfl, Nat.zero_le _, rfl⟩
 case round =>
  obtain ⟨k, rfl, hk, rfl⟩ := hrel
  have hk2 := HK.out
  by_cases hlt : k < K
  ·have hks : k < s.size := by omega
   have e0 : ((s[k]'hks).toNat : Int) = 48 := by rw [Z1.out k hks hlt]; rfl
   have a2 : (k : Int) < (s.size : Int) := by omega
   have a1 : (0 : Int) ≤ (k : Int) := by omega
   clear hk2
   go_wp2
   exact ⟨⟨k + 1, by go_num, by omega, trivial⟩, by simp [intOf]; omega⟩
  ·obtain rfl : k = K := by omega
   have hz : k < s.size := by have := HN.out; have := HN0.out; omega
   obtain ⟨B, hB⟩ : ∃ B : Nat, (s[k]'hz).toNat = B := ⟨_, rfl⟩
   have hB48 := Z2.out hz
   rw [hB] at hB48
   have e0 : ((s[k]'hz).toNat : Int) = (B : Int) := by rw [hB]
   have e1 : ((B : Int) == 48) = false := by rw [beq_eq_false_iff_ne]; omega
   have a2 : (k : Int) < (s.size : Int) := by omega
   have a1 : (0 : Int) ≤ (k : Int) := by omega
   have a3 : (k : Int) ≤ (s.size : Int) := by omega
   have a4 : ((s.size - k : Nat) : Int) = (N : Int) := by rw [HN.out]
   clear hk2 hB hB48
   go_wp2_with fail
   refine (C3.out _).mono ?_
   rintro e w1 ⟨A1, n1, c1, rfl, g1, b1⟩
   have G1 := Lib.hid g1
   have B1 := Lib.hid b1
   clear g1 b1
   go_wp2_with fail
   refine (C4.out _).mono ?_
   rintro e w2 ⟨A2, n2, c2, rfl, g2, b2⟩
   have G2 := Lib.hid g2
   have G1a := Lib.hid (G1.out.step b2)
   have B2 := Lib.hid (below_le B1.out b2)
   clear g2 b2
   go_wp2_with fail
   refine (C5.out _ _ _ _ G2.out).mono ?_
   rintro e w3 ⟨rfl, b3⟩
   have G2a := Lib.hid (G2.out.step b3)
   have G1b := Lib.hid (G1a.out.step b3)
   have B3 := Lib.hid (below_le B2.out b3)
   clear b3
   go_wp2_with fail
   refine (C6.out _ _ _ _ G1b.out).mono ?_
   rintro e w4 ⟨rfl, b4⟩
   have G2b := Lib.hid (G2a.out.step b4)
   have G1c := Lib.hid (G1b.out.step b4)
   have B4 := Lib.hid (below_le B3.out b4)
   clear b4
   go_wp2_with fail
   refine (C7.out _ _ _ _ G1c.out).mono ?_
   rintro e w5 ⟨A5, n5, c5, rfl, g5, b5⟩
   have G5 := Lib.hid g5
   have G25 := Lib.hid (G2b.out.step b5)
   have B5 := Lib.hid (below_le B4.out b5)
   clear g5 b5
   go_wp2_with fail
   refine (C8.out _ _ _ _ _ _ _ G5.out G25.out).mono ?_
   rintro e w6 ⟨A6, n6, c6, A7, n7, c7, rfl, g6, g7, b6⟩
   have G6 := Lib.hid g6
   have B6 := Lib.hid (below_le B5.out b6)
   obtain rfl : n7 = 0 := by
    have h1 := g7.len
    rw [HREM.out] at h1
    exact h1.symm
   clear g6 g7 b6
   go_wp2_with fail
   refine (C9.out _ _ _ _ G6.out).mono ?_
   rintro e w7 ⟨A8, n8, c8, rfl, g8, b7⟩
   have G8 := Lib.hid g8
   have B7 := Lib.hid (below_le B6.out b7)
   clear g8 b7
   go_wp2_with fail
   refine (C11.out _ _ _ _ G8.out).mono ?_
   rintro e w9 ⟨rfl, b9⟩
   have B9 := Lib.hid (below_le B7.out b9)
   clear b9
   go_wp2
   go_ret
   exact ⟨rfl, B9.out⟩
set_option maxRecDepth 100000 in
set_option maxHeartbeats 2000000 in
theorem ydec_short_neg01 (s : ByteArray) (K N : Nat) (X P : Int) (m F : Nat) (D M Q Q2 bd ba : Nat) (x1 up Y : Int) (w : World) (hs : s.size ≤ 281474976710656) (hK : K ≤ s.size) (hN : s.size - K = N)
  (Z1 : Hid (∀ k (h : k < s.size), k < K → (s[k]'h).toNat = 48)) (Z2 : Hid (∀ h : K < s.size, (s[K]'h).toNat ≠ 48))
  (hN0 : 0 < N) (p1 : wrap64 ((N : Int) + X) = P) (t0 : ((N : Int) == 0) = false) (t1 : decide (400 < P) = false) (t2 : decide (P < -400) = false) (t3 : decide (820 < (N : Int)) = false)
  (C3 : Hid (∀ W, Cp 165 #[.string (s.extract K s.size), .int .i64 10] W (NOk m W)))
  (C4 : Hid (∀ W, Cp 115 #[.int .i64 (-X)] W (NRet D W)))
  (C5 : Hid (∀ W A1 n1 c1, NV W A1 n1 c1 D → Ct 163 #[.slice A1 n1 c1] (.int .i64 (bd : Nat)) W))
  (C6 : Hid (∀ W A1 n1 c1, NV W A1 n1 c1 m → Ct 163 #[.slice A1 n1 c1] (.int .i64 (ba : Nat)) W))
  (C7 : Hid (∀ W A1 n1 c1, NV W A1 n1 c1 m → Cp 102 #[.slice A1 n1 c1, .int .i64 0] W (NRet M W)))
  (C8 : Hid (∀ W A1 n1 c1 A2 n2 c2, NV W A1 n1 c1 M → NV W A2 n2 c2 D → Cp 49 #[.slice A1 n1 c1, .slice A2 n2 c2] W (HRet M D W)))
  (C9 : Hid (∀ W A1 n1 c1, NV W A1 n1 c1 (M / D) → Cp 102 #[.slice A1 n1 c1, .int .i64 1] W (NRet Q W)))
  (C10 : Hid (∀ W A1 n1 c1 A2 n2 c2, NV W A1 n1 c1 Q → NV W A2 n2 c2 1 → Cp 103 #[.slice A1 n1 c1, .slice A2 n2 c2] W (NRet Q2 W)))
  (C11 : Hid (∀ W A1 n1 c1, NV W A1 n1 c1 Q2 → Ct 154 #[.slice A1 n1 c1, .int .i64 Y] (.float .f64 F) W))
  (hrem : M % D ≠ 0)
  (u0 : decide (0 ≤ X) = false) (u1 : wrap64 (-X) = -X) (u2 : wrap64 ((bd : Int) - (ba : Int)) = x1) (u3 : wrap64 (x1 + 70) = up) (u4 : decide (up < 0) = true) (u6 : Y = -1) :
  Ct 104 #[.string s, .int .i64 X] (.float .f64 F) w := by
 have h1 : (s.size : Int) ≤ 281474976710656 := by omega
 have HN := Lib.hid hN
 have HK := Lib.hid hK
 have HN0 := Lib.hid hN0
 have HREM := Lib.hid hrem
 subst u6
 clear hs hK hN hN0 hrem
 go_enter Tryz.func104, Tryz.ntmps104
 go_wp2
 go_loopw [5] (fun i wr => ∃ k : Nat, i = .int .i64 k ∧ k ≤ K ∧ w = wr) (fun i _ => K - (intOf i).toNat)
 case atStart => exact ⟨0, rfl, Nat.zero_le _, rfl⟩
 case round =>
  obtain ⟨k, rfl, hk, rfl⟩ := hrel
  have hk2 := HK.out
  by_cases hlt : k < K
  ·have hks : k < s.size := by omega
   have e0 : ((s[k]'hks).toNat : Int) = 48 := by rw [Z1.out k hks hlt]; rfl
   have a2 : (k : Int) < (s.size : Int) := by omega
   have a1 : (0 : Int) ≤ (k : Int) := by omega
   clear hk2
   go_wp2
   exact ⟨⟨k + 1, by go_num, by omega, trivial⟩, by simp [intOf]; omega⟩
  ·obtain rfl : k = K := by omega
   have hz : k < s.size := by have := HN.out; have := HN0.out; omega
   obtain ⟨B, hB⟩ : ∃ B : Nat, (s[k]'hz).toNat = B := ⟨_, rfl⟩
   have hB48 := Z2.out hz
   rw [hB] at hB48
   have e0 : ((s[k]'hz).toNat : Int) = (B : Int) := by rw [hB]
   have e1 : ((B : Int) == 48) = false := by rw [beq_eq_false_iff_ne]; omega
   have a2 : (k : Int) < (s.size : Int) := by omega
   have a1 : (0 : Int) ≤ (k : Int) := by omega
   have a3 : (k : Int) ≤ (s.size : Int) := by omega
   have a4 : ((s.size - k : Nat) : Int) = (N : Int) := by rw [HN.out]
   clear hk2 hB hB48
   go_wp2_with fail
   refine (C3.out _).mono ?_
   rintro e w1 ⟨A1, n1, c1, rfl, g1, b1⟩
   have G1 := Lib.hid g1
   have B1 := Lib.hid b1
   clear g1 b1
   go_wp2_with fail
   refine (C4.out _).mono ?_
   rintro e w2 ⟨A2, n2, c2, rfl, g2, b2⟩
   have G2 := Lib.hid g2
   have G1a := Lib.hid (G1.out.step b2)
   have B2 := Lib.hid (below_le B1.out b2)
   clear g2 b2
   go_wp2_with fail
   refine (C5.out _ _ _ _ G2.out).mono ?_
   rintro e w3 ⟨rfl, b3⟩
   have G2a := Lib.hid (G2.out.step b3)
   have G1b := Lib.hid (G1a.out.step b3)
   have B3 := Lib.hid (below_le B2.out b3)
   clear b3
   go_wp2_with fail
   refine (C6.out _ _ _ _ G1b.out).mono ?_
   rintro e w4 ⟨rfl, b4⟩
   have G2b := Lib.hid (G2a.out.step b4)
   have G1c := Lib.hid (G1b.out.step b4)
   have B4 := Lib.hid (below_le B3.out b4)
   clear b4
   go_wp2_with fail
   refine (C7.out _ _ _ _ G1c.out).mono ?_
   rintro e w5 ⟨A5, n5, c5, rfl, g5, b5⟩
   have G5 := Lib.hid g5
   have G25 := Lib.hid (G2b.out.step b5)
   have B5 := Lib.hid (below_le B4.out b5)
   clear g5 b5
   go_wp2_with fail
   refine (C8.out _ _ _ _ _ _ _ G5.out G25.out).mono ?_
   rintro e w6 ⟨A6, n6, c6, A7, n7, c7, rfl, g6, g7, b6⟩
   have G6 := Lib.hid g6
   have B6 := Lib.hid (below_le B5.out b6)
   have hn7 : (0 : Int) < (n7 : Int) := by
    have h1 := g7.len
    have h2 : (wds (M % D)) ≠ [] := fun e => HREM.out (by have h3 := wds_val (M % D); rw [e] at h3; exact h3.symm)
    have := List.length_pos_iff.2 h2
    omega
   clear g6 g7 b6
   go_wp2_with fail
   refine (C9.out _ _ _ _ G6.out).mono ?_
   rintro e w7 ⟨A8, n8, c8, rfl, g8, b7⟩
   have G8 := Lib.hid g8
   have B7 := Lib.hid (below_le B6.out b7)
   clear g8 b7
   have bl := Lib.hid (show Below w7.heap.size w7 (w7.alloc (.cells #[.int .u32 1] 42)) from (Below.refl _ _).alloc (Nat.le_refl _) _)
   have C10' := Lib.hid (C10.out _ _ _ _ _ _ _ (G8.out.step bl.out) (NV.lit w7 1 (by omega) (by omega)))
   go_wp2_with fail
   refine C10'.out.mono ?_
   rintro e w8 ⟨A9, n9, c9, rfl, g9, b8⟩
   have G9 := Lib.hid g9
   have B8 := Lib.hid (below_le (below_le B7.out bl.out) b8)
   clear g9 b8
   go_wp2_with fail
   refine (C11.out _ _ _ _ G9.out).mono ?_
   rintro e w9 ⟨rfl, b9⟩
   have B9 := Lib.hid (below_le B8.out b9)
   clear b9
   go_wp2
   go_ret
   exact ⟨rfl, B9.out⟩
set_option maxRecDepth 100000 in
set_option maxHeartbeats 2000000 in
theorem ydec_short_neg10 (s : ByteArray) (K N : Nat) (X P : Int) (m F : Nat) (D M Q bd ba : Nat) (x1 up x2 Y : Int) (w : World) (hs : s.size ≤ 281474976710656) (hK : K ≤ s.size) (hN : s.size - K = N)
  (Z1 : Hid (∀ k (h : k < s.size), k < K → (s[k]'h).toNat = 48)) (Z2 : Hid (∀ h : K < s.size, (s[K]'h).toNat ≠ 48))
  (hN0 : 0 < N) (p1 : wrap64 ((N : Int) + X) = P) (t0 : ((N : Int) == 0) = false) (t1 : decide (400 < P) = false) (t2 : decide (P < -400) = false) (t3 : decide (820 < (N : Int)) = false)
  (C3 : Hid (∀ W, Cp 165 #[.string (s.extract K s.size), .int .i64 10] W (NOk m W)))
  (C4 : Hid (∀ W, Cp 115 #[.int .i64 (-X)] W (NRet D W)))
  (C5 : Hid (∀ W A1 n1 c1, NV W A1 n1 c1 D → Ct 163 #[.slice A1 n1 c1] (.int .i64 (bd : Nat)) W))
  (C6 : Hid (∀ W A1 n1 c1, NV W A1 n1 c1 m → Ct 163 #[.slice A1 n1 c1] (.int .i64 (ba : Nat)) W))
  (C7 : Hid (∀ W A1 n1 c1, NV W A1 n1 c1 m → Cp 102 #[.slice A1 n1 c1, .int .i64 up] W (NRet M W)))
  (C8 : Hid (∀ W A1 n1 c1 A2 n2 c2, NV W A1 n1 c1 M → NV W A2 n2 c2 D → Cp 49 #[.slice A1 n1 c1, .slice A2 n2 c2] W (HRet M D W)))
  (C9 : Hid (∀ W A1 n1 c1, NV W A1 n1 c1 (M / D) → Cp 102 #[.slice A1 n1 c1, .int .i64 1] W (NRet Q W)))
  (C11 : Hid (∀ W A1 n1 c1, NV W A1 n1 c1 Q → Ct 154 #[.slice A1 n1 c1, .int .i64 Y] (.float .f64 F) W))
  (hrem : M % D = 0)
  (u0 : decide (0 ≤ X) = false) (u1 : wrap64 (-X) = -X) (u2 : wrap64 ((bd : Int) - (ba : Int)) = x1) (u3 : wrap64 (x1 + 70) = up) (u4 : decide (up < 0) = false) (u5 : wrap64 (-up) = x2) (u6 : wrap64 (x2 - 1) = Y) :
  Ct 104 #[.string s, .int .i64 X] (.float .f64 F) w := by
 have h1 : (s.size : Int) ≤ 281474976710656 := by omega
 have HN := Lib.hid hN
 have HK := Lib.hid hK
 have HN0 := Lib.hid hN0
 have HREM := Lib.hid hrem
 clear hs hK hN hN0 hrem
 go_enter Tryz.func104, Tryz.ntmps104
 go_wp2
 go_loopw [5] (fun i wr => ∃ k : Nat, i = .int .i64 k ∧ k ≤ K ∧ w = wr) (fun i _ => K - (intOf i).toNat)
 case atStart => exact ⟨0, rfl, Nat.zero_le _, rfl⟩
 case round =>
  obtain ⟨k, rfl, hk, rfl⟩ := hrel
  have hk2 := HK.out
  by_cases hlt : k < K
  ·have hks : k < s.size := by omega
   have e0 : ((s[k]'hks).toNat : Int) = 48 := by rw [Z1.out k hks hlt]; rfl
   have a2 : (k : Int) < (s.size : Int) := by omega
   have a1 : (0 : Int) ≤ (k : Int) := by omega
   clear hk2
   go_wp2
   exact ⟨⟨k + 1, by go_num, by omega, trivial⟩, by simp [intOf]; omega⟩
  ·obtain rfl : k = K := by omega
   have hz : k < s.size := by have := HN.out; have := HN0.out; omega
   obtain ⟨B, hB⟩ : ∃ B : Nat, (s[k]'hz).toNat = B := ⟨_, rfl⟩
   have hB48 := Z2.out hz
   rw [hB] at hB48
   have e0 : ((s[k]'hz).toNat : Int) = (B : Int) := by rw [hB]
   have e1 : ((B : Int) == 48) = false := by rw [beq_eq_false_iff_ne]; omega
   have a2 : (k : Int) < (s.size : Int) := by omega
   have a1 : (0 : Int) ≤ (k : Int) := by omega
   have a3 : (k : Int) ≤ (s.size : Int) := by omega
   have a4 : ((s.size - k : Nat) : Int) = (N : Int) := by rw [HN.out]
   clear hk2 hB hB48
   go_wp2_with fail
   refine (C3.out _).mono ?_
   rintro e w1 ⟨A1, n1, c1, rfl, g1, b1⟩
   have G1 := Lib.hid g1
   have B1 := Lib.hid b1
   clear g1 b1
   go_wp2_with fail
   refine (C4.out _).mono ?_
   rintro e w2 ⟨A2, n2, c2, rfl, g2, b2⟩
   have G2 := Lib.hid g2
   have G1a := Lib.hid (G1.out.step b2)
   have B2 := Lib.hid (below_le B1.out b2)
   clear g2 b2
   go_wp2_with fail
   refine (C5.out _ _ _ _ G2.out).mono ?_
   rintro e w3 ⟨rfl, b3⟩
   have G2a := Lib.hid (G2.out.step b3)
   have G1b := Lib.hid (G1a.out.step b3)
   have B3 := Lib.hid (below_le B2.out b3)
   clear b3
   go_wp2_with fail
   refine (C6.out _ _ _ _ G1b.out).mono ?_
   rintro e w4 ⟨rfl, b4⟩
   have G2b := Lib.hid (G2a.out.step b4)
   have G1c := Lib.hid (G1b.out.step b4)
   have B4 := Lib.hid (below_le B3.out b4)
   clear b4
   go_wp2_with fail
   refine (C7.out _ _ _ _ G1c.out).mono ?_
   rintro e w5 ⟨A5, n5, c5, rfl, g5, b5⟩
   have G5 := Lib.hid g5
   have G25 := Lib.hid (G2b.out.step b5)
   have B5 := Lib.hid (below_le B4.out b5)
   clear g5 b5
   go_wp2_with fail
   refine (C8.out _ _ _ _ _ _ _ G5.out G25.out).mono ?_
   rintro e w6 ⟨A6, n6, c6, A7, n7, c7, rfl, g6, g7, b6⟩
   have G6 := Lib.hid g6
   have B6 := Lib.hid (below_le B5.out b6)
   obtain rfl : n7 = 0 := by
    have h1 := g7.len
    rw [HREM.out] at h1
    exact h1.symm
   clear g6 g7 b6
   go_wp2_with fail
   refine (C9.out _ _ _ _ G6.out).mono ?_
   rintro e w7 ⟨A8, n8, c8, rfl, g8, b7⟩
   have G8 := Lib.hid g8
   have B7 := Lib.hid (below_le B6.out b7)
   clear g8 b7
   go_wp2_with fail
   refine (C11.out _ _ _ _ G8.out).mono ?_
   rintro e w9 ⟨rfl, b9⟩
   have B9 := Lib.hid (below_le B7.out b9)
   clear b9
   go_wp2
   go_ret
   exact ⟨rfl, B9.out⟩
set_option maxRecDepth 100000 in
set_option maxHeartbeats 2000000 in
theorem ydec_short_neg11 (s : ByteArray) (K N : Nat) (X P : Int) (m F : Nat) (D M Q Q2 bd ba : Nat) (x1 up x2 Y : Int) (w : World) (hs : s.size ≤ 281474976710656) (hK : K ≤ s.size) (hN : s.size - K = N)
  (Z1 : Hid (∀ k (h : k < s.size), k < K → (s[k]'h).toNat = 48)) (Z2 : Hid (∀ h : K < s.size, (s[K]'h).toNat ≠ 48))
  (hN0 : 0 < N) (p1 : wrap64 ((N : Int) + X) = P) (t0 : ((N : Int) == 0) = false) (t1 : decide (400 < P) = false) (t2 : decide (P < -400) = false) (t3 : decide (820 < (N : Int)) = false)
  (C3 : Hid (∀ W, Cp 165 #[.string (s.extract K s.size), .int .i64 10] W (NOk m W)))
  (C4 : Hid (∀ W, Cp 115 #[.int .i64 (-X)] W (NRet D W)))
  (C5 : Hid (∀ W A1 n1 c1, NV W A1 n1 c1 D → Ct 163 #[.slice A1 n1 c1] (.int .i64 (bd : Nat)) W))
  (C6 : Hid (∀ W A1 n1 c1, NV W A1 n1 c1 m → Ct 163 #[.slice A1 n1 c1] (.int .i64 (ba : Nat)) W))
  (C7 : Hid (∀ W A1 n1 c1, NV W A1 n1 c1 m → Cp 102 #[.slice A1 n1 c1, .int .i64 up] W (NRet M W)))
  (C8 : Hid (∀ W A1 n1 c1 A2 n2 c2, NV W A1 n1 c1 M → NV W A2 n2 c2 D → Cp 49 #[.slice A1 n1 c1, .slice A2 n2 c2] W (HRet M D W)))
  (C9 : Hid (∀ W A1 n1 c1, NV W A1 n1 c1 (M / D) → Cp 102 #[.slice A1 n1 c1, .int .i64 1] W (NRet Q W)))
  (C10 : Hid (∀ W A1 n1 c1 A2 n2 c2, NV W A1 n1 c1 Q → NV W A2 n2 c2 1 → Cp 103 #[.slice A1 n1 c1, .slice A2 n2 c2] W (NRet Q2 W)))
  (C11 : Hid (∀ W A1 n1 c1, NV W A1 n1 c1 Q2 → Ct 154 #[.slice A1 n1 c1, .int .i64 Y] (.float .f64 F) W))
  (hrem : M % D ≠ 0)
  (u0 : decide (0 ≤ X) = false) (u1 : wrap64 (-X) = -X) (u2 : wrap64 ((bd : Int) - (ba : Int)) = x1) (u3 : wrap64 (x1 + 70) = up) (u4 : decide (up < 0) = false) (u5 : wrap64 (-up) = x2) (u6 : wrap64 (x2 - 1) = Y) :
  Ct 104 #[.string s, .int .i64 X] (.float .f64 F) w := by
 have h1 : (s.size : Int) ≤ 281474976710656 := by omega
 have HN := Lib.hid hN
 have HK := Lib.hid hK
 have HN0 := Lib.hid hN0
 have HREM := Lib.hid hrem
 clear hs hK hN hN0 hrem
 go_enter Tryz.func104, Tryz.ntmps104
 go_wp2
 go_loopw [5] (fun i wr => ∃ k : Nat, i = .int .i64 k ∧ k ≤ K ∧ w = wr) (fun i _ => K - (intOf i).toNat)
 case atStart => exact ⟨0, rfl, Nat.zero_le _, rfl⟩
 case round =>
  obtain ⟨k, rfl, hk, rfl⟩ := hrel
  have hk2 := HK.out
  by_cases hlt : k < K
  ·have hks : k < s.size := by omega
   have e0 : ((s[k]'hks).toNat : Int) = 48 := by rw [Z1.out k hks hlt]; rfl
   have a2 : (k : Int) < (s.size : Int) := by omega
   have a1 : (0 : Int) ≤ (k : Int) := by omega
   clear hk2
   go_wp2
   exact ⟨⟨k + 1, by go_num, by omega, trivial⟩, by simp [intOf]; omega⟩
  ·obtain rfl : k = K := by omega
   have hz : k < s.size := by have := HN.out; have := HN0.out; omega
   obtain ⟨B, hB⟩ : ∃ B : Nat, (s[k]'hz).toNat = B := ⟨_, rfl⟩
   have hB48 := Z2.out hz
   rw [hB] at hB48
   have e0 : ((s[k]'hz).toNat : Int) = (B : Int) := by rw [hB]
   have e1 : ((B : Int) == 48) = false := by rw [beq_eq_false_iff_ne]; omega
   have a2 : (k : Int) < (s.size : Int) := by omega
   have a1 : (0 : Int) ≤ (k : Int) := by omega
   have a3 : (k : Int) ≤ (s.size : Int) := by omega
   have a4 : ((s.size - k : Nat) : Int) = (N : Int) := by rw [HN.out]
   clear hk2 hB hB48
   go_wp2_with fail
   refine (C3.out _).mono ?_
   rintro e w1 ⟨A1, n1, c1, rfl, g1, b1⟩
   have G1 := Lib.hid g1
   have B1 := Lib.hid b1
   clear g1 b1
   go_wp2_with fail
   refine (C4.out _).mono ?_
   rintro e w2 ⟨A2, n2, c2, rfl, g2, b2⟩
   have G2 := Lib.hid g2
   have G1a := Lib.hid (G1.out.step b2)
   have B2 := Lib.hid (below_le B1.out b2)
   clear g2 b2
   go_wp2_with fail
   refine (C5.out _ _ _ _ G2.out).mono ?_
   rintro e w3 ⟨rfl, b3⟩
   have G2a := Lib.hid (G2.out.step b3)
   have G1b := Lib.hid (G1a.out.step b3)
   have B3 := Lib.hid (below_le B2.out b3)
   clear b3
   go_wp2_with fail
   refine (C6.out _ _ _ _ G1b.out).mono ?_
   rintro e w4 ⟨rfl, b4⟩
   have G2b := Lib.hid (G2a.out.step b4)
   have G1c := Lib.hid (G1b.out.step b4)
   have B4 := Lib.hid (below_le B3.out b4)
   clear b4
   go_wp2_with fail
   refine (C7.out _ _ _ _ G1c.out).mono ?_
   rintro e w5 ⟨A5, n5, c5, rfl, g5, b5⟩
   have G5 := Lib.hid g5
   have G25 := Lib.hid (G2b.out.step b5)
   have B5 := Lib.hid (below_le B4.out b5)
   clear g5 b5
   go_wp2_with fail
   refine (C8.out _ _ _ _ _ _ _ G5.out G25.out).mono ?_
   rintro e w6 ⟨A6, n6, c6, A7, n7, c7, rfl, g6, g7, b6⟩
   have G6 := Lib.hid g6
   have B6 := Lib.hid (below_le B5.out b6)
   have hn7 : (0 : Int) < (n7 : Int) := by
    have h1 := g7.len
    have h2 : (wds (M % D)) ≠ [] := fun e => HREM.out (by have h3 := wds_val (M % D); rw [e] at h3; exact h3.symm)
    have := List.length_pos_iff.2 h2
    omega
   clear g6 g7 b6
   go_wp2_with fail
   refine (C9.out _ _ _ _ G6.out).mono ?_
   rintro e w7 ⟨A8, n8, c8, rfl, g8, b7⟩
   have G8 := Lib.hid g8
   have B7 := Lib.hid (below_le B6.out b7)
   clear g8 b7
   have bl := Lib.hid (show Below w7.heap.size w7 (w7.alloc (.cells #[.int .u32 1] 42)) from (Below.refl _ _).alloc (Nat.le_refl _) _)
   have C10' := Lib.hid (C10.out _ _ _ _ _ _ _ (G8.out.step bl.out) (NV.lit w7 1 (by omega) (by omega)))
   go_wp2_with fail
   refine C10'.out.mono ?_
   rintro e w8 ⟨A9, n9, c9, rfl, g9, b8⟩
   have G9 := Lib.hid g9
   have B8 := Lib.hid (below_le (below_le B7.out bl.out) b8)
   clear g9 b8
   go_wp2_with fail
   refine (C11.out _ _ _ _ G9.out).mono ?_
   rintro e w9 ⟨rfl, b9⟩
   have B9 := Lib.hid (below_le B8.out b9)
   clear b9
   go_wp2
   go_ret
   exact ⟨rfl, B9.out⟩

end Go.Proofs.YtfcpkdafkmohkaaGreatDoor
namespace Go.Proofs.YtfcpkdafkmohkaaGreatDoor
open Go.RowKit
set_option maxRecDepth 100000 in
set_option maxHeartbeats 2000000 in
theorem ydec_longr_pos (s : ByteArray) (K N : Nat) (X P : Int) (m F : Nat) (D M : Nat) (g : ByteArray) (y1 y2 : Int) (E : Int) (w : World) (hs : s.size ≤ 281474976710656) (hK : K ≤ s.size) (hN : s.size - K = N)
  (Z1 : Hid (∀ k (h : k < s.size), k < K → (s[k]'h).toNat = 48)) (Z2 : Hid (∀ h : K < s.size, (s[K]'h).toNat ≠ 48))
  (hN0 : 0 < N) (p1 : wrap64 ((N : Int) + X) = P) (t0 : ((N : Int) == 0) = false) (t1 : decide (400 < P) = false) (t2 : decide (P < -400) = false) (t3 : decide (820 < (N : Int)) = true)
  (hg : s.extract K s.size = g) (hgN : g.size = N) (hN8 : 820 < N) (hrb : ((bl g).drop 810).any (· != 48) = true)
  (q0 : wrap64 (X + (N : Int)) = y1) (q1 : wrap64 (y1 - 810) = y2) (q2 : wrap64 (y2 - 1) = E) (_q3 : ¬ 9223372036854775807 < (g.extract 0 810).size + 1) 
  (C3 : Hid (∀ W, Cp 165 #[.string (g.extract 0 810 ++ ⟨#[49]⟩), .int .i64 10] W (NOk m W)))
  (C4 : Hid (∀ W, Cp 115 #[.int .i64 E] W (NRet D W)))
  (C5 : Hid (∀ W A1 n1 c1 A2 n2 c2, NV W A1 n1 c1 m → NV W A2 n2 c2 D → Cp 51 #[.slice A1 n1 c1, .slice A2 n2 c2] W (NRet M W)))
  (C6 : Hid (∀ W A1 n1 c1, NV W A1 n1 c1 M → Ct 154 #[.slice A1 n1 c1, .int .i64 0] (.float .f64 F) W))
  (u0 : decide (0 ≤ E) = true) :
  Ct 104 #[.string s, .int .i64 X] (.float .f64 F) w := by
 have h1 : (s.size : Int) ≤ 281474976710656 := by omega
 have HN := Lib.hid hN
 have HK := Lib.hid hK
 have HN0 := Lib.hid hN0
 have HG := Lib.hid hg
 have HGN := Lib.hid hgN
 have HN8 := Lib.hid hN8
 have HRB := Lib.hid hrb
 clear hs hK hN hN0 hg hgN hN8 hrb
 go_enter Tryz.func104, Tryz.ntmps104
 go_wp2
 go_loopw [5] (fun i wr => ∃ k : Nat, i = .int .i64 k ∧ k ≤ K ∧ w = wr) (fun i _ => K - (intOf i).toNat)
 case atStart => exact ⟨0, rfl, Nat.zero_le _, rfl⟩
 case round =>
  obtain ⟨k, rfl, hk, rfl⟩ := hrel
  have hk2 := HK.out
  by_cases hlt : k < K
  ·have hks : k < s.size := by omega
   have e0 : ((s[k]'hks).toNat : Int) = 48 := by rw [Z1.out k hks hlt]; rfl
   have a2 : (k : Int) < (s.size : Int) := by omega
   have a1 : (0 : Int) ≤ (k : Int) := by omega
   clear hk2
   go_wp2
   exact ⟨⟨k + 1, by go_num, by omega, trivial⟩, by simp [intOf]; omega⟩
  ·obtain rfl : k = K := by omega
   have hz : k < s.size := by have := HN.out; have := HN0.out; omega
   obtain ⟨B, hB⟩ : ∃ B : Nat, (s[k]'hz).toNat = B := ⟨_, rfl⟩
   have hB48 := Z2.out hz
   rw [hB] at hB48
   have e0 : ((s[k]'hz).toNat : Int) = (B : Int) := by rw [hB]
   have e1 : ((B : Int) == 48) = false := by rw [beq_eq_false_iff_ne]; omega
   have a2 : (k : Int) < (s.size : Int) := by omega
   have a1 : (0 : Int) ≤ (k : Int) := by omega
   have a3 : (k : Int) ≤ (s.size : Int) := by omega
   have a4 : ((s.size - k : Nat) : Int) = (N : Int) := by rw [HN.out]
   clear hk2 hB hB48
   have hext : s.extract k s.size = g := HG.out
   have b4 : (g.size : Int) = (N : Int) := by rw [HGN.out]
   go_wp2
   clear a1 a2 a3 e0 e1 hext hz b4
   go_loopw [6, 7] (fun v i wr => ∃ j : Nat, i = .int .i64 (810 + (j : Int)) ∧ 810 + j ≤ N ∧ v = .bool ((((bl g).drop 810).take j).any (· != 48)) ∧ w = wr) (fun _ i _ => N - (intOf i).toNat)
   case atStart => exact ⟨0, rfl, by have := HN8.out; omega, rfl, rfl⟩
   case round =>
    obtain ⟨j, rfl, hj, rfl, rfl⟩ := hrel
    by_cases hjl : 810 + j < N
    ·have hgs : 810 + j < g.size := by rw [HGN.out]; exact hjl
     obtain ⟨D8, hD8⟩ : ∃ D8 : Nat, (g[810 + j]'hgs).toNat = D8 := ⟨_, rfl⟩
     have hstep : (((bl g).drop 810).take (j + 1)).any (· != 48) = ((((bl g).drop 810).take j).any (· != 48) || (D8 != 48)) := by
      rw [List.take_add_one, List.getElem?_drop, bl_get g (810 + j) hgs, hD8, List.any_append]
      simp
     have b0 : ((810 + (j : Int)) : Int) < (N : Int) := by omega
     have b1 : (0 : Int) ≤ 810 + (j : Int) := by omega
     have b2 : (810 + (j : Int)).toNat = 810 + j := by omega
     have b3 : ((g[810 + j]'hgs).toNat : Int) = (D8 : Int) := by rw [hD8]
     have b4 : (g.size : Int) = (N : Int) := by rw [HGN.out]
     have b5 : 810 + (j : Int) < (g.size : Int) := by omega
     obtain ⟨r, hr⟩ : ∃ r, (((bl g).drop 810).take j).any (· != 48) = r := ⟨_, rfl⟩
     rw [hr] at hstep ⊢
     have HST := Lib.hid hstep
     clear hstep hr hD8
     cases r
     ·cases h48 : (D8 != 48)
      ·have b6 : ((D8 : Int) != 48) = false := by rw [bne_eq_false_iff_eq]; have := bne_eq_false_iff_eq.1 h48; omega
       have HS2 := Lib.hid (show (((bl g).drop 810).take (j + 1)).any (· != 48) = false from by rw [HST.out, h48]; rfl)
       clear h48
       go_wp2
       exact ⟨⟨j + 1, by go_num, by omega, by rw [HS2.out], trivial⟩, by simp [intOf]; omega⟩
      ·have b6 : ((D8 : Int) != 48) = true := by rw [bne_iff_ne]; have := bne_iff_ne.1 h48; omega
       have HS2 := Lib.hid (show (((bl g).drop 810).take (j + 1)).any (· != 48) = true from by rw [HST.out, h48]; rfl)
       clear h48
       go_wp2
       exact ⟨⟨j + 1, by go_num, by omega, by rw [HS2.out], trivial⟩, by simp [intOf]; omega⟩
     ·have HS2 := Lib.hid (show (((bl g).drop 810).take (j + 1)).any (· != 48) = true from by rw [HST.out]; rfl)
      go_wp2
      exact ⟨⟨j + 1, by go_num, by omega, by rw [HS2.out], trivial⟩, by simp [intOf]; omega⟩
    ·have hz2 : (((bl g).drop 810).take j).any (· != 48) = true := by
      rw [List.take_of_length_le (by rw [List.length_drop, bl_size, HGN.out]; omega)]
      exact HRB.out
     rw [hz2]
     have b4 : (g.size : Int) = (N : Int) := by rw [HGN.out]
     have b0 : decide (810 + (j : Int) < (N : Int)) = false := decide_eq_false (by omega)
     have b5 : (810 : Int) ≤ (g.size : Int) := by have := HN8.out; omega
     clear hz2
     go_wp2_with fail
     refine (C3.out _).mono ?_
     rintro e w1 ⟨A1, n1, c1, rfl, g1, b1⟩
     have G1 := Lib.hid g1
     have B1 := Lib.hid b1
     clear g1 b1
     go_wp2_with fail
     refine (C4.out _).mono ?_
     rintro e w2 ⟨A2, n2, c2, rfl, g2, b2⟩
     have G2 := Lib.hid g2
     have G1a := Lib.hid (G1.out.step b2)
     have B2 := Lib.hid (below_le B1.out b2)
     clear g2 b2
     go_wp2_with fail
     refine (C5.out _ _ _ _ _ _ _ G1a.out G2.out).mono ?_
     rintro e w3 ⟨A3, n3, c3, rfl, g3, b3⟩
     have G3 := Lib.hid g3
     have B3 := Lib.hid (below_le B2.out b3)
     clear g3 b3
     go_wp2_with fail
     refine (C6.out _ _ _ _ G3.out).mono ?_
     rintro e w4 ⟨rfl, b4⟩
     have B4 := Lib.hid (below_le B3.out b4)
     clear b4
     go_wp2
     go_ret
     exact ⟨rfl, B4.out⟩
set_option maxRecDepth 100000 in
set_option maxHeartbeats 2000000 in
theorem ydec_longr_neg00 (s : ByteArray) (K N : Nat) (X P : Int) (m F : Nat) (D M Q bd ba : Nat) (x1 up Y : Int) (g : ByteArray) (y1 y2 : Int) (E : Int) (w : World) (hs : s.size ≤ 281474976710656) (hK : K ≤ s.size) (hN : s.size - K = N)
  (Z1 : Hid (∀ k (h : k < s.size), k < K → (s[k]'h).toNat = 48)) (Z2 : Hid (∀ h : K < s.size, (s[K]'h).toNat ≠ 48))
  (hN0 : 0 < N) (p1 : wrap64 ((N : Int) + X) = P) (t0 : ((N : Int) == 0) = false) (t1 : decide (400 < P) = false) (t2 : decide (P < -400) = false) (t3 : decide (820 < (N : Int)) = true)
  (hg : s.extract K s.size = g) (hgN : g.size = N) (hN8 : 820 < N) (hrb : ((bl g).drop 810).any (· != 48) = true)
  (q0 : wrap64 (X + (N : Int)) = y1) (q1 : wrap64 (y1 - 810) = y2) (q2 : wrap64 (y2 - 1) = E) (_q3 : ¬ 9223372036854775807 < (g.extract 0 810).size + 1) 
  (C3 : Hid (∀ W, Cp 165 #[.string (g.extract 0 810 ++ ⟨#[49]⟩), .int .i64 10] W (NOk m W)))
  (C4 : Hid (∀ W, Cp 115 #[.int .i64 (-E)] W (NRet D W)))
  (C5 : Hid (∀ W A1 n1 c1, NV W A1 n1 c1 D → Ct 163 #[.slice A1 n1 c1] (.int .i64 (bd : Nat)) W))
  (C6 : Hid (∀ W A1 n1 c1, NV W A1 n1 c1 m → Ct 163 #[.slice A1 n1 c1] (.int .i64 (ba : Nat)) W))
  (C7 : Hid (∀ W A1 n1 c1, NV W A1 n1 c1 m → Cp 102 #[.slice A1 n1 c1, .int .i64 0] W (NRet M W)))
  (C8 : Hid (∀ W A1 n1 c1 A2 n2 c2, NV W A1 n1 c1 M → NV W A2 n2 c2 D → Cp 49 #[.slice A1 n1 c1, .slice A2 n2 c2] W (HRet M D W)))
  (C9 : Hid (∀ W A1 n1 c1, NV W A1 n1 c1 (M / D) → Cp 102 #[.slice A1 n1 c1, .int .i64 1] W (NRet Q W)))
  (C11 : Hid (∀ W A1 n1 c1, NV W A1 n1 c1 Q → Ct 154 #[.slice A1 n1 c1, .int .i64 Y] (.float .f64 F) W))
  (hrem : M % D = 0)
  (u0 : decide (0 ≤ E) = false) (u1 : wrap64 (-E) = -E) (u2 : wrap64 ((bd : Int) - (ba : Int)) = x1) (u3 : wrap64 (x1 + 70) = up) (u4 : decide (up < 0) = true) (u6 : Y = -1) :
  Ct 104 #[.string s, .int .i64 X] (.float .f64 F) w := by
 have h1 : (s.size : Int) ≤ 281474976710656 := by omega
 have HN := Lib.hid hN
 have HK := Lib.hid hK
 have HN0 := Lib.hid hN0
 have HREM := Lib.hid hrem
 subst u6
 have HG := Lib.hid hg
 have HGN := Lib.hid hgN
 have HN8 := Lib.hid hN8
 have HRB := Lib.hid hrb
 clear hs hK hN hN0 hrem hg hgN hN8 hrb
 go_enter Tryz.func104, Tryz.ntmps104
 go_wp2
 go_loopw [5] (fun i wr => ∃ k : Nat, i = .int .i64 k ∧ k ≤ K ∧ w = wr) (fun i _ => K - (intOf i).toNat)
 case atStart => exact ⟨0, rfl, Nat.zero_le _, rfl⟩
 case round =>
  obtain ⟨k, rfl, hk, rfl⟩ := hrel
  have hk2 := HK.out
  by_cases hlt : k < K
  ·have hks : k < s.size := by omega
   have e0 : ((s[k]'hks).toNat : Int) = 48 := by rw [Z1.out k hks hlt]; rfl
   have a2 : (k : Int) < (s.size : Int) := by omega
   have a1 : (0 : Int) ≤ (k : Int) := by omega
   clear hk2
   go_wp2
   exact ⟨⟨k + 1, by go_num, by omega, trivial⟩, by simp [intOf]; omega⟩
  ·obtain rfl : k = K := by omega
   have hz : k < s.size := by have := HN.out; have := HN0.out; omega
   obtain ⟨B, hB⟩ : ∃ B : Nat, (s[k]'hz).toNat = B := ⟨_, rfl⟩
   have hB48 := Z2.out hz
   rw [hB] at hB48
   have e0 : ((s[k]'hz).toNat : Int) = (B : Int) := by rw [hB]
   have e1 : ((B : Int) == 48) = false := by rw [beq_eq_false_iff_ne]; omega
   have a2 : (k : Int) < (s.size : Int) := by omega
   have a1 : (0 : Int) ≤ (k : Int) := by omega
   have a3 : (k : Int) ≤ (s.size : Int) := by omega
   have a4 : ((s.size - k : Nat) : Int) = (N : Int) := by rw [HN.out]
   clear hk2 hB hB48
   have hext : s.extract k s.size = g := HG.out
   have b4 : (g.size : Int) = (N : Int) := by rw [HGN.out]
   go_wp2
   clear a1 a2 a3 e0 e1 hext hz b4
   go_loopw [6, 7] (fun v i wr => ∃ j : Nat, i = .int .i64 (810 + (j : Int)) ∧ 810 + j ≤ N ∧ v = .bool ((((bl g).drop 810).take j).any (· != 48)) ∧ w = wr) (fun _ i _ => N - (intOf i).toNat)
   case atStart => exact ⟨0, rfl, by have := HN8.out; omega, rfl, rfl⟩
   case round =>
    obtain ⟨j, rfl, hj, rfl, rfl⟩ := hrel
    by_cases hjl : 810 + j < N
    ·have hgs : 810 + j < g.size := by rw [HGN.out]; exact hjl
     obtain ⟨D8, hD8⟩ : ∃ D8 : Nat, (g[810 + j]'hgs).toNat = D8 := ⟨_, rfl⟩
     have hstep : (((bl g).drop 810).take (j + 1)).any (· != 48) = ((((bl g).drop 810).take j).any (· != 48) || (D8 != 48)) := by
      rw [List.take_add_one, List.getElem?_drop, bl_get g (810 + j) hgs, hD8, List.any_append]
      simp
     have b0 : ((810 + (j : Int)) : Int) < (N : Int) := by omega
     have b1 : (0 : Int) ≤ 810 + (j : Int) := by omega
     have b2 : (810 + (j : Int)).toNat = 810 + j := by omega
     have b3 : ((g[810 + j]'hgs).toNat : Int) = (D8 : Int) := by rw [hD8]
     have b4 : (g.size : Int) = (N : Int) := by rw [HGN.out]
     have b5 : 810 + (j : Int) < (g.size : Int) := by omega
     obtain ⟨r, hr⟩ : ∃ r, (((bl g).drop 810).take j).any (· != 48) = r := ⟨_, rfl⟩
     rw [hr] at hstep ⊢
     have HST := Lib.hid hstep
     clear hstep hr hD8
     cases r
     ·cases h48 : (D8 != 48)
      ·have b6 : ((D8 : Int) != 48) = false := by rw [bne_eq_false_iff_eq]; have := bne_eq_false_iff_eq.1 h48; omega
       have HS2 := Lib.hid (show (((bl g).drop 810).take (j + 1)).any (· != 48) = false from by rw [HST.out, h48]; rfl)
       clear h48
       go_wp2
       exact ⟨⟨j + 1, by go_num, by omega, by rw [HS2.out], trivial⟩, by simp [intOf]; omega⟩
      ·have b6 : ((D8 : Int) != 48) = true := by rw [bne_iff_ne]; have := bne_iff_ne.1 h48; omega
       have HS2 := Lib.hid (show (((bl g).drop 810).take (j + 1)).any (· != 48) = true from by rw [HST.out, h48]; rfl)
       clear h48
       go_wp2
       exact ⟨⟨j + 1, by go_num, by omega, by rw [HS2.out], trivial⟩, by simp [intOf]; omega⟩
     ·have HS2 := Lib.hid (show (((bl g).drop 810).take (j + 1)).any (· != 48) = true from by rw [HST.out]; rfl)
      go_wp2
      exact ⟨⟨j + 1, by go_num, by omega, by rw [HS2.out], trivial⟩, by simp [intOf]; omega⟩
    ·have hz2 : (((bl g).drop 810).take j).any (· != 48) = true := by
      rw [List.take_of_length_le (by rw [List.length_drop, bl_size, HGN.out]; omega)]
      exact HRB.out
     rw [hz2]
     have b4 : (g.size : Int) = (N : Int) := by rw [HGN.out]
     have b0 : decide (810 + (j : Int) < (N : Int)) = false := decide_eq_false (by omega)
     have b5 : (810 : Int) ≤ (g.size : Int) := by have := HN8.out; omega
     clear hz2
     go_wp2_with fail
     refine (C3.out _).mono ?_
     rintro e w1 ⟨A1, n1, c1, rfl, g1, b1⟩
     have G1 := Lib.hid g1
     have B1 := Lib.hid b1
     clear g1 b1
     go_wp2_with fail
     refine (C4.out _).mono ?_
     rintro e w2 ⟨A2, n2, c2, rfl, g2, b2⟩
     have G2 := Lib.hid g2
     have G1a := Lib.hid (G1.out.step b2)
     have B2 := Lib.hid (below_le B1.out b2)
     clear g2 b2
     go_wp2_with fail
     refine (C5.out _ _ _ _ G2.out).mono ?_
     rintro e w3 ⟨rfl, b3⟩
     have G2a := Lib.hid (G2.out.step b3)
     have G1b := Lib.hid (G1a.out.step b3)
     have B3 := Lib.hid (below_le B2.out b3)
     clear b3
     go_wp2_with fail
     refine (C6.out _ _ _ _ G1b.out).mono ?_
     rintro e w4 ⟨rfl, b4⟩
     have G2b := Lib.hid (G2a.out.step b4)
     have G1c := Lib.hid (G1b.out.step b4)
     have B4 := Lib.hid (below_le B3.out b4)
     clear b4
     go_wp2_with fail
     refine (C7.out _ _ _ _ G1c.out).mono ?_
     rintro e w5 ⟨A5, n5, c5, rfl, g5, b5⟩
     have G5 := Lib.hid g5
     have G25 := Lib.hid (G2b.out.step b5)
     have B5 := Lib.hid (below_le B4.out b5)
     clear g5 b5
     go_wp2_with fail
     refine (C8.out _ _ _ _ _ _ _ G5.out G25.out).mono ?_
     rintro e w6 ⟨A6, n6, c6, A7, n7, c7, rfl, g6, g7, b6⟩
     have G6 := Lib.hid g6
     have B6 := Lib.hid (below_le B5.out b6)
     obtain rfl : n7 = 0 := by
      have h1 := g7.len
      rw [HREM.out] at h1
      exact h1.symm
     clear g6 g7 b6
     go_wp2_with fail
     refine (C9.out _ _ _ _ G6.out).mono ?_
     rintro e w7 ⟨A8, n8, c8, rfl, g8, b7⟩
     have G8 := Lib.hid g8
     have B7 := Lib.hid (below_le B6.out b7)
     clear g8 b7
     go_wp2_with fail
     refine (C11.out _ _ _ _ G8.out).mono ?_
     rintro e w9 ⟨rfl, b9⟩
     have B9 := Lib.hid (below_le B7.out b9)
     clear b9
     go_wp2
     go_ret
     exact ⟨rfl, B9.out⟩
set_option maxRecDepth 100000 in
set_option maxHeartbeats 2000000 in
theorem ydec_longr_neg01 (s : ByteArray) (K N : Nat) (X P : Int) (m F : Nat) (D M Q Q2 bd ba : Nat) (x1 up Y : Int) (g : ByteArray) (y1 y2 : Int) (E : Int) (w : World) (hs : s.size ≤ 281474976710656) (hK : K ≤ s.size) (hN : s.size - K = N)
  (Z1 : Hid (∀ k (h : k < s.size), k < K → (s[k]'h).toNat = 48)) (Z2 : Hid (∀ h : K < s.size, (s[K]'h).toNat ≠ 48))
  (hN0 : 0 < N) (p1 : wrap64 ((N : Int) + X) = P) (t0 : ((N : Int) == 0) = false) (t1 : decide (400 < P) = false) (t2 : decide (P < -400) = false) (t3 : decide (820 < (N : Int)) = true)
  (hg : s.extract K s.size = g) (hgN : g.size = N) (hN8 : 820 < N) (hrb : ((bl g).drop 810).any (· != 48) = true)
  (q0 : wrap64 (X + (N : Int)) = y1) (q1 : wrap64 (y1 - 810) = y2) (q2 : wrap64 (y2 - 1) = E) (_q3 : ¬ 9223372036854775807 < (g.extract 0 810).size + 1) 
  (C3 : Hid (∀ W, Cp 165 #[.string (g.extract 0 810 ++ ⟨#[49]⟩), .int .i64 10] W (NOk m W)))
  (C4 : Hid (∀ W, Cp 115 #[.int .i64 (-E)] W (NRet D W)))
  (C5 : Hid (∀ W A1 n1 c1, NV W A1 n1 c1 D → Ct 163 #[.slice A1 n1 c1] (.int .i64 (bd : Nat)) W))
  (C6 : Hid (∀ W A1 n1 c1, NV W A1 n1 c1 m → Ct 163 #[.slice A1 n1 c1] (.int .i64 (ba : Nat)) W))
  (C7 : Hid (∀ W A1 n1 c1, NV W A1 n1 c1 m → Cp 102 #[.slice A1 n1 c1, .int .i64 0] W (NRet M W)))
  (C8 : Hid (∀ W A1 n1 c1 A2 n2 c2, NV W A1 n1 c1 M → NV W A2 n2 c2 D → Cp 49 #[.slice A1 n1 c1, .slice A2 n2 c2] W (HRet M D W)))
  (C9 : Hid (∀ W A1 n1 c1, NV W A1 n1 c1 (M / D) → Cp 102 #[.slice A1 n1 c1, .int .i64 1] W (NRet Q W)))
  (C10 : Hid (∀ W A1 n1 c1 A2 n2 c2, NV W A1 n1 c1 Q → NV W A2 n2 c2 1 → Cp 103 #[.slice A1 n1 c1, .slice A2 n2 c2] W (NRet Q2 W)))
  (C11 : Hid (∀ W A1 n1 c1, NV W A1 n1 c1 Q2 → Ct 154 #[.slice A1 n1 c1, .int .i64 Y] (.float .f64 F) W))
  (hrem : M % D ≠ 0)
  (u0 : decide (0 ≤ E) = false) (u1 : wrap64 (-E) = -E) (u2 : wrap64 ((bd : Int) - (ba : Int)) = x1) (u3 : wrap64 (x1 + 70) = up) (u4 : decide (up < 0) = true) (u6 : Y = -1) :
  Ct 104 #[.string s, .int .i64 X] (.float .f64 F) w := by
 have h1 : (s.size : Int) ≤ 281474976710656 := by omega
 have HN := Lib.hid hN
 have HK := Lib.hid hK
 have HN0 := Lib.hid hN0
 have HREM := Lib.hid hrem
 subst u6
 have HG := Lib.hid hg
 have HGN := Lib.hid hgN
 have HN8 := Lib.hid hN8
 have HRB := Lib.hid hrb
 clear hs hK hN hN0 hrem hg hgN hN8 hrb
 go_enter Tryz.func104, Tryz.ntmps104
 go_wp2
 go_loopw [5] (fun i wr => ∃ k : Nat, i = .int .i64 k ∧ k ≤ K ∧ w = wr) (fun i _ => K - (intOf i).toNat)
 case atStart => exact ⟨0, rfl, Nat.zero_le _, rfl⟩
 case round =>
  obtain ⟨k, rfl, hk, rfl⟩ := hrel
  have hk2 := HK.out
  by_cases hlt : k < K
  ·have hks : k < s.size := by omega
   have e0 : ((s[k]'hks).toNat : Int) = 48 := by rw [Z1.out k hks hlt]; rfl
   have a2 : (k : Int) < (s.size : Int) := by omega
   have a1 : (0 : Int) ≤ (k : Int) := by omega
   clear hk2
   go_wp2
   exact ⟨⟨k + 1, by go_num, by omega, trivial⟩, by simp [intOf]; omega⟩
  ·obtain rfl : k = K := by omega
   have hz : k < s.size := by have := HN.out; have := HN0.out; omega
   obtain ⟨B, hB⟩ : ∃ B : Nat, (s[k]'hz).toNat = B := ⟨_, rfl⟩
   have hB48 := Z2.out hz
   rw [hB] at hB48
   have e0 : ((s[k]'hz).toNat : Int) = (B : Int) := by rw [hB]
   have e1 : ((B : Int) == 48) = false := by rw [beq_eq_false_iff_ne]; omega
   have a2 : (k : Int) < (s.size : Int) := by omega
   have a1 : (0 : Int) ≤ (k : Int) := by omega
   have a3 : (k : Int) ≤ (s.size : Int) := by omega
   have a4 : ((s.size - k : Nat) : Int) = (N : Int) := by rw [HN.out]
   clear hk2 hB hB48
   have hext : s.extract k s.size = g := HG.out
   have b4 : (g.size : Int) = (N : Int) := by rw [HGN.out]
   go_wp2
   clear a1 a2 a3 e0 e1 hext hz b4
   go_loopw [6, 7] (fun v i wr => ∃ j : Nat, i = .int .i64 (810 + (j : Int)) ∧ 810 + j ≤ N ∧ v = .bool ((((bl g).drop 810).take j).any (· != 48)) ∧ w = wr) (fun _ i _ => N - (intOf i).toNat)
   case atStart => exact ⟨0, rfl, by have := HN8.out; omega, rfl, rfl⟩
   case round =>
    obtain ⟨j, rfl, hj, rfl, rfl⟩ := hrel
    by_cases hjl : 810 + j < N
    ·have hgs : 810 + j < g.size := by rw [HGN.out]; exact hjl
     obtain ⟨D8, hD8⟩ : ∃ D8 : Nat, (g[810 + j]'hgs).toNat = D8 := ⟨_, rfl⟩
     have hstep : (((bl g).drop 810).take (j + 1)).any (· != 48) = ((((bl g).drop 810).take j).any (· != 48) || (D8 != 48)) := by
      rw [List.take_add_one, List.getElem?_drop, bl_get g (810 + j) hgs, hD8, List.any_append]
      simp
     have b0 : ((810 + (j : Int)) : Int) < (N : Int) := by omega
     have b1 : (0 : Int) ≤ 810 + (j : Int) := by omega
     have b2 : (810 + (j : Int)).toNat = 810 + j := by omega
     have b3 : ((g[810 + j]'hgs).toNat : Int) = (D8 : Int) := by rw [hD8]
     have b4 : (g.size : Int) = (N : Int) := by rw [HGN.out]
     have b5 : 810 + (j : Int) < (g.size : Int) := by omega
     obtain ⟨r, hr⟩ : ∃ r, (((bl g).drop 810).take j).any (· != 48) = r := ⟨_, rfl⟩
     rw [hr] at hstep ⊢
     have HST := Lib.hid hstep
     clear hstep hr hD8
     cases r
     ·cases h48 : (D8 != 48)
      ·have b6 : ((D8 : Int) != 48) = false := by rw [bne_eq_false_iff_eq]; have := bne_eq_false_iff_eq.1 h48; omega
       have HS2 := Lib.hid (show (((bl g).drop 810).take (j + 1)).any (· != 48) = false from by rw [HST.out, h48]; rfl)
       clear h48
       go_wp2
       exact ⟨⟨j + 1, by go_num, by omega, by rw [HS2.out], trivial⟩, by simp [intOf]; omega⟩
      ·have b6 : ((D8 : Int) != 48) = true := by rw [bne_iff_ne]; have := bne_iff_ne.1 h48; omega
       have HS2 := Lib.hid (show (((bl g).drop 810).take (j + 1)).any (· != 48) = true from by rw [HST.out, h48]; rfl)
       clear h48
       go_wp2
       exact ⟨⟨j + 1, by go_num, by omega, by rw [HS2.out], trivial⟩, by simp [intOf]; omega⟩
     ·have HS2 := Lib.hid (show (((bl g).drop 810).take (j + 1)).any (· != 48) = true from by rw [HST.out]; rfl)
      go_wp2
      exact ⟨⟨j + 1, by go_num, by omega, by rw [HS2.out], trivial⟩, by simp [intOf]; omega⟩
    ·have hz2 : (((bl g).drop 810).take j).any (· != 48) = true := by
      rw [List.take_of_length_le (by rw [List.length_drop, bl_size, HGN.out]; omega)]
      exact HRB.out
     rw [hz2]
     have b4 : (g.size : Int) = (N : Int) := by rw [HGN.out]
     have b0 : decide (810 + (j : Int) < (N : Int)) = false := decide_eq_false (by omega)
     have b5 : (810 : Int) ≤ (g.size : Int) := by have := HN8.out; omega
     clear hz2
     go_wp2_with fail
     refine (C3.out _).mono ?_
     rintro e w1 ⟨A1, n1, c1, rfl, g1, b1⟩
     have G1 := Lib.hid g1
     have B1 := Lib.hid b1
     clear g1 b1
     go_wp2_with fail
     refine (C4.out _).mono ?_
     rintro e w2 ⟨A2, n2, c2, rfl, g2, b2⟩
     have G2 := Lib.hid g2
     have G1a := Lib.hid (G1.out.step b2)
     have B2 := Lib.hid (below_le B1.out b2)
     clear g2 b2
     go_wp2_with fail
     refine (C5.out _ _ _ _ G2.out).mono ?_
     rintro e w3 ⟨rfl, b3⟩
     have G2a := Lib.hid (G2.out.step b3)
     have G1b := Lib.hid (G1a.out.step b3)
     have B3 := Lib.hid (below_le B2.out b3)
     clear b3
     go_wp2_with fail
     refine (C6.out _ _ _ _ G1b.out).mono ?_
     rintro e w4 ⟨rfl, b4⟩
     have G2b := Lib.hid (G2a.out.step b4)
     have G1c := Lib.hid (G1b.out.step b4)
     have B4 := Lib.hid (below_le B3.out b4)
     clear b4
     go_wp2_with fail
     refine (C7.out _ _ _ _ G1c.out).mono ?_
     rintro e w5 ⟨A5, n5, c5, rfl, g5, b5⟩
     have G5 := Lib.hid g5
     have G25 := Lib.hid (G2b.out.step b5)
     have B5 := Lib.hid (below_le B4.out b5)
     clear g5 b5
     go_wp2_with fail
     refine (C8.out _ _ _ _ _ _ _ G5.out G25.out).mono ?_
     rintro e w6 ⟨A6, n6, c6, A7, n7, c7, rfl, g6, g7, b6⟩
     have G6 := Lib.hid g6
     have B6 := Lib.hid (below_le B5.out b6)
     have hn7 : (0 : Int) < (n7 : Int) := by
      have h1 := g7.len
      have h2 : (wds (M % D)) ≠ [] := fun e => HREM.out (by have h3 := wds_val (M % D); rw [e] at h3; exact h3.symm)
      have := List.length_pos_iff.2 h2
      omega
     clear g6 g7 b6
     go_wp2_with fail
     refine (C9.out _ _ _ _ G6.out).mono ?_
     rintro e w7 ⟨A8, n8, c8, rfl, g8, b7⟩
     have G8 := Lib.hid g8
     have B7 := Lib.hid (below_le B6.out b7)
     clear g8 b7
     have bl := Lib.hid (show Below w7.heap.size w7 (w7.alloc (.cells #[.int .u32 1] 42)) from (Below.refl _ _).alloc (Nat.le_refl _) _)
     have C10' := Lib.hid (C10.out _ _ _ _ _ _ _ (G8.out.step bl.out) (NV.lit w7 1 (by omega) (by omega)))
     go_wp2_with fail
     refine C10'.out.mono ?_
     rintro e w8 ⟨A9, n9, c9, rfl, g9, b8⟩
     have G9 := Lib.hid g9
     have B8 := Lib.hid (below_le (below_le B7.out bl.out) b8)
     clear g9 b8
     go_wp2_with fail
     refine (C11.out _ _ _ _ G9.out).mono ?_
     rintro e w9 ⟨rfl, b9⟩
     have B9 := Lib.hid (below_le B8.out b9)
     clear b9
     go_wp2
     go_ret
     exact ⟨rfl, B9.out⟩
set_option maxRecDepth 100000 in
set_option maxHeartbeats 2000000 in
theorem ydec_longr_neg10 (s : ByteArray) (K N : Nat) (X P : Int) (m F : Nat) (D M Q bd ba : Nat) (x1 up x2 Y : Int) (g : ByteArray) (y1 y2 : Int) (E : Int) (w : World) (hs : s.size ≤ 281474976710656) (hK : K ≤ s.size) (hN : s.size - K = N)
  (Z1 : Hid (∀ k (h : k < s.size), k < K → (s[k]'h).toNat = 48)) (Z2 : Hid (∀ h : K < s.size, (s[K]'h).toNat ≠ 48))
  (hN0 : 0 < N) (p1 : wrap64 ((N : Int) + X) = P) (t0 : ((N : Int) == 0) = false) (t1 : decide (400 < P) = false) (t2 : decide (P < -400) = false) (t3 : decide (820 < (N : Int)) = true)
  (hg : s.extract K s.size = g) (hgN : g.size = N) (hN8 : 820 < N) (hrb : ((bl g).drop 810).any (· != 48) = true)
  (q0 : wrap64 (X + (N : Int)) = y1) (q1 : wrap64 (y1 - 810) = y2) (q2 : wrap64 (y2 - 1) = E) (_q3 : ¬ 9223372036854775807 < (g.extract 0 810).size + 1) 
  (C3 : Hid (∀ W, Cp 165 #[.string (g.extract 0 810 ++ ⟨#[49]⟩), .int .i64 10] W (NOk m W)))
  (C4 : Hid (∀ W, Cp 115 #[.int .i64 (-E)] W (NRet D W)))
  (C5 : Hid (∀ W A1 n1 c1, NV W A1 n1 c1 D → Ct 163 #[.slice A1 n1 c1] (.int .i64 (bd : Nat)) W))
  (C6 : Hid (∀ W A1 n1 c1, NV W A1 n1 c1 m → Ct 163 #[.slice A1 n1 c1] (.int .i64 (ba : Nat)) W))
  (C7 : Hid (∀ W A1 n1 c1, NV W A1 n1 c1 m → Cp 102 #[.slice A1 n1 c1, .int .i64 up] W (NRet M W)))
  (C8 : Hid (∀ W A1 n1 c1 A2 n2 c2, NV W A1 n1 c1 M → NV W A2 n2 c2 D → Cp 49 #[.slice A1 n1 c1, .slice A2 n2 c2] W (HRet M D W)))
  (C9 : Hid (∀ W A1 n1 c1, NV W A1 n1 c1 (M / D) → Cp 102 #[.slice A1 n1 c1, .int .i64 1] W (NRet Q W)))
  (C11 : Hid (∀ W A1 n1 c1, NV W A1 n1 c1 Q → Ct 154 #[.slice A1 n1 c1, .int .i64 Y] (.float .f64 F) W))
  (hrem : M % D = 0)
  (u0 : decide (0 ≤ E) = false) (u1 : wrap64 (-E) = -E) (u2 : wrap64 ((bd : Int) - (ba : Int)) = x1) (u3 : wrap64 (x1 + 70) = up) (u4 : decide (up < 0) = false) (u5 : wrap64 (-up) = x2) (u6 : wrap64 (x2 - 1) = Y) :
  Ct 104 #[.string s, .int .i64 X] (.float .f64 F) w := by
 have h1 : (s.size : Int) ≤ 281474976710656 := by omega
 have HN := Lib.hid hN
 have HK := Lib.hid hK
 have HN0 := Lib.hid hN0
 have HREM := Lib.hid hrem
 have HG := Lib.hid hg
 have HGN := Lib.hid hgN
 have HN8 := Lib.hid hN8
 have HRB := Lib.hid hrb
 clear hs hK hN hN0 hrem hg hgN hN8 hrb
 go_enter Tryz.func104, Tryz.ntmps104
 go_wp2
 go_loopw [5] (fun i wr => ∃ k : Nat, i = .int .i64 k ∧ k ≤ K ∧ w = wr) (fun i _ => K - (intOf i).toNat)
 case atStart => exact ⟨0, rfl, Nat.zero_le _, rfl⟩
 case round =>
  obtain ⟨k, rfl, hk, rfl⟩ := hrel
  have hk2 := HK.out
  by_cases hlt : k < K
  ·have hks : k < s.size := by omega
   have e0 : ((s[k]'hks).toNat : Int) = 48 := by rw [Z1.out k hks hlt]; rfl
   have a2 : (k : Int) < (s.size : Int) := by omega
   have a1 : (0 : Int) ≤ (k : Int) := by omega
   clear hk2
   go_wp2
   exact ⟨⟨k + 1, by go_num, by omega, trivial⟩, by simp [intOf]; omega⟩
  ·obtain rfl : k = K := by omega
   have hz : k < s.size := by have := HN.out; have := HN0.out; omega
   obtain ⟨B, hB⟩ : ∃ B : Nat, (s[k]'hz).toNat = B := ⟨_, rfl⟩
   have hB48 := Z2.out hz
   rw [hB] at hB48
   have e0 : ((s[k]'hz).toNat : Int) = (B : Int) := by rw [hB]
   have e1 : ((B : Int) == 48) = false := by rw [beq_eq_false_iff_ne]; omega
   have a2 : (k : Int) < (s.size : Int) := by omega
   have a1 : (0 : Int) ≤ (k : Int) := by omega
   have a3 : (k : Int) ≤ (s.size : Int) := by omega
   have a4 : ((s.size - k : Nat) : Int) = (N : Int) := by rw [HN.out]
   clear hk2 hB hB48
   have hext : s.extract k s.size = g := HG.out
   have b4 : (g.size : Int) = (N : Int) := by rw [HGN.out]
   go_wp2
   clear a1 a2 a3 e0 e1 hext hz b4
   go_loopw [6, 7] (fun v i wr => ∃ j : Nat, i = .int .i64 (810 + (j : Int)) ∧ 810 + j ≤ N ∧ v = .bool ((((bl g).drop 810).take j).any (· != 48)) ∧ w = wr) (fun _ i _ => N - (intOf i).toNat)
   case atStart => exact ⟨0, rfl, by have := HN8.out; omega, rfl, rfl⟩
   case round =>
    obtain ⟨j, rfl, hj, rfl, rfl⟩ := hrel
    by_cases hjl : 810 + j < N
    ·have hgs : 810 + j < g.size := by rw [HGN.out]; exact hjl
     obtain ⟨D8, hD8⟩ : ∃ D8 : Nat, (g[810 + j]'hgs).toNat = D8 := ⟨_, rfl⟩
     have hstep : (((bl g).drop 810).take (j + 1)).any (· != 48) = ((((bl g).drop 810).take j).any (· != 48) || (D8 != 48)) := by
      rw [List.take_add_one, List.getElem?_drop, bl_get g (810 + j) hgs, hD8, List.any_append]
      simp
     have b0 : ((810 + (j : Int)) : Int) < (N : Int) := by omega
     have b1 : (0 : Int) ≤ 810 + (j : Int) := by omega
     have b2 : (810 + (j : Int)).toNat = 810 + j := by omega
     have b3 : ((g[810 + j]'hgs).toNat : Int) = (D8 : Int) := by rw [hD8]
     have b4 : (g.size : Int) = (N : Int) := by rw [HGN.out]
     have b5 : 810 + (j : Int) < (g.size : Int) := by omega
     obtain ⟨r, hr⟩ : ∃ r, (((bl g).drop 810).take j).any (· != 48) = r := ⟨_, rfl⟩
     rw [hr] at hstep ⊢
     have HST := Lib.hid hstep
     clear hstep hr hD8
     cases r
     ·cases h48 : (D8 != 48)
      ·have b6 : ((D8 : Int) != 48) = false := by rw [bne_eq_false_iff_eq]; have := bne_eq_false_iff_eq.1 h48; omega
       have HS2 := Lib.hid (show (((bl g).drop 810).take (j + 1)).any (· != 48) = false from by rw [HST.out, h48]; rfl)
       clear h48
       go_wp2
       exact ⟨⟨j + 1, by go_num, by omega, by rw [HS2.out], trivial⟩, by simp [intOf]; omega⟩
      ·have b6 : ((D8 : Int) != 48) = true := by rw [bne_iff_ne]; have := bne_iff_ne.1 h48; omega
       have HS2 := Lib.hid (show (((bl g).drop 810).take (j + 1)).any (· != 48) = true from by rw [HST.out, h48]; rfl)
       clear h48
       go_wp2
       exact ⟨⟨j + 1, by go_num, by omega, by rw [HS2.out], trivial⟩, by simp [intOf]; omega⟩
     ·have HS2 := Lib.hid (show (((bl g).drop 810).take (j + 1)).any (· != 48) = true from by rw [HST.out]; rfl)
      go_wp2
      exact ⟨⟨j + 1, by go_num, by omega, by rw [HS2.out], trivial⟩, by simp [intOf]; omega⟩
    ·have hz2 : (((bl g).drop 810).take j).any (· != 48) = true := by
      rw [List.take_of_length_le (by rw [List.length_drop, bl_size, HGN.out]; omega)]
      exact HRB.out
     rw [hz2]
     have b4 : (g.size : Int) = (N : Int) := by rw [HGN.out]
     have b0 : decide (810 + (j : Int) < (N : Int)) = false := decide_eq_false (by omega)
     have b5 : (810 : Int) ≤ (g.size : Int) := by have := HN8.out; omega
     clear hz2
     go_wp2_with fail
     refine (C3.out _).mono ?_
     rintro e w1 ⟨A1, n1, c1, rfl, g1, b1⟩
     have G1 := Lib.hid g1
     have B1 := Lib.hid b1
     clear g1 b1
     go_wp2_with fail
     refine (C4.out _).mono ?_
     rintro e w2 ⟨A2, n2, c2, rfl, g2, b2⟩
     have G2 := Lib.hid g2
     have G1a := Lib.hid (G1.out.step b2)
     have B2 := Lib.hid (below_le B1.out b2)
     clear g2 b2
     go_wp2_with fail
     refine (C5.out _ _ _ _ G2.out).mono ?_
     rintro e w3 ⟨rfl, b3⟩
     have G2a := Lib.hid (G2.out.step b3)
     have G1b := Lib.hid (G1a.out.step b3)
     have B3 := Lib.hid (below_le B2.out b3)
     clear b3
     go_wp2_with fail
     refine (C6.out _ _ _ _ G1b.out).mono ?_
     rintro e w4 ⟨rfl, b4⟩
     have G2b := Lib.hid (G2a.out.step b4)
     have G1c := Lib.hid (G1b.out.step b4)
     have B4 := Lib.hid (below_le B3.out b4)
     clear b4
     go_wp2_with fail
     refine (C7.out _ _ _ _ G1c.out).mono ?_
     rintro e w5 ⟨A5, n5, c5, rfl, g5, b5⟩
     have G5 := Lib.hid g5
     have G25 := Lib.hid (G2b.out.step b5)
     have B5 := Lib.hid (below_le B4.out b5)
     clear g5 b5
     go_wp2_with fail
     refine (C8.out _ _ _ _ _ _ _ G5.out G25.out).mono ?_
     rintro e w6 ⟨A6, n6, c6, A7, n7, c7, rfl, g6, g7, b6⟩
     have G6 := Lib.hid g6
     have B6 := Lib.hid (below_le B5.out b6)
     obtain rfl : n7 = 0 := by
      have h1 := g7.len
      rw [HREM.out] at h1
      exact h1.symm
     clear g6 g7 b6
     go_wp2_with fail
     refine (C9.out _ _ _ _ G6.out).mono ?_
     rintro e w7 ⟨A8, n8, c8, rfl, g8, b7⟩
     have G8 := Lib.hid g8
     have B7 := Lib.hid (below_le B6.out b7)
     clear g8 b7
     go_wp2_with fail
     refine (C11.out _ _ _ _ G8.out).mono ?_
     rintro e w9 ⟨rfl, b9⟩
     have B9 := Lib.hid (below_le B7.out b9)
     clear b9
     go_wp2
     go_ret
     exact ⟨rfl, B9.out⟩
set_option maxRecDepth 100000 in
set_option maxHeartbeats 2000000 in
theorem ydec_longr_neg11 (s : ByteArray) (K N : Nat) (X P : Int) (m F : Nat) (D M Q Q2 bd ba : Nat) (x1 up x2 Y : Int) (g : ByteArray) (y1 y2 : Int) (E : Int) (w : World) (hs : s.size ≤ 281474976710656) (hK : K ≤ s.size) (hN : s.size - K = N)
  (Z1 : Hid (∀ k (h : k < s.size), k < K → (s[k]'h).toNat = 48)) (Z2 : Hid (∀ h : K < s.size, (s[K]'h).toNat ≠ 48))
  (hN0 : 0 < N) (p1 : wrap64 ((N : Int) + X) = P) (t0 : ((N : Int) == 0) = false) (t1 : decide (400 < P) = false) (t2 : decide (P < -400) = false) (t3 : decide (820 < (N : Int)) = true)
  (hg : s.extract K s.size = g) (hgN : g.size = N) (hN8 : 820 < N) (hrb : ((bl g).drop 810).any (· != 48) = true)
  (q0 : wrap64 (X + (N : Int)) = y1) (q1 : wrap64 (y1 - 810) = y2) (q2 : wrap64 (y2 - 1) = E) (_q3 : ¬ 9223372036854775807 < (g.extract 0 810).size + 1) 
  (C3 : Hid (∀ W, Cp 165 #[.string (g.extract 0 810 ++ ⟨#[49]⟩), .int .i64 10] W (NOk m W)))
  (C4 : Hid (∀ W, Cp 115 #[.int .i64 (-E)] W (NRet D W)))
  (C5 : Hid (∀ W A1 n1 c1, NV W A1 n1 c1 D → Ct 163 #[.slice A1 n1 c1] (.int .i64 (bd : Nat)) W))
  (C6 : Hid (∀ W A1 n1 c1, NV W A1 n1 c1 m → Ct 163 #[.slice A1 n1 c1] (.int .i64 (ba : Nat)) W))
  (C7 : Hid (∀ W A1 n1 c1, NV W A1 n1 c1 m → Cp 102 #[.slice A1 n1 c1, .int .i64 up] W (NRet M W)))
  (C8 : Hid (∀ W A1 n1 c1 A2 n2 c2, NV W A1 n1 c1 M → NV W A2 n2 c2 D → Cp 49 #[.slice A1 n1 c1, .slice A2 n2 c2] W (HRet M D W)))
  (C9 : Hid (∀ W A1 n1 c1, NV W A1 n1 c1 (M / D) → Cp 102 #[.slice A1 n1 c1, .int .i64 1] W (NRet Q W)))
  (C10 : Hid (∀ W A1 n1 c1 A2 n2 c2, NV W A1 n1 c1 Q → NV W A2 n2 c2 1 → Cp 103 #[.slice A1 n1 c1, .slice A2 n2 c2] W (NRet Q2 W)))
  (C11 : Hid (∀ W A1 n1 c1, NV W A1 n1 c1 Q2 → Ct 154 #[.slice A1 n1 c1, .int .i64 Y] (.float .f64 F) W))
  (hrem : M % D ≠ 0)
  (u0 : decide (0 ≤ E) = false) (u1 : wrap64 (-E) = -E) (u2 : wrap64 ((bd : Int) - (ba : Int)) = x1) (u3 : wrap64 (x1 + 70) = up) (u4 : decide (up < 0) = false) (u5 : wrap64 (-up) = x2) (u6 : wrap64 (x2 - 1) = Y) :
  Ct 104 #[.string s, .int .i64 X] (.float .f64 F) w := by
 have h1 : (s.size : Int) ≤ 281474976710656 := by omega
 have HN := Lib.hid hN
 have HK := Lib.hid hK
 have HN0 := Lib.hid hN0
 have HREM := Lib.hid hrem
 have HG := Lib.hid hg
 have HGN := Lib.hid hgN
 have HN8 := Lib.hid hN8
 have HRB := Lib.hid hrb
 clear hs hK hN hN0 hrem hg hgN hN8 hrb
 go_enter Tryz.func104, Tryz.ntmps104
 go_wp2
 go_loopw [5] (fun i wr => ∃ k : Nat, i = .int .i64 k ∧ k ≤ K ∧ w = wr) (fun i _ => K - (intOf i).toNat)
 case atStart => exact ⟨0, rfl, Nat.zero_le _, rfl⟩
 case round =>
  obtain ⟨k, rfl, hk, rfl⟩ := hrel
  have hk2 := HK.out
  by_cases hlt : k < K
  ·have hks : k < s.size := by omega
   have e0 : ((s[k]'hks).toNat : Int) = 48 := by rw [Z1.out k hks hlt]; rfl
   have a2 : (k : Int) < (s.size : Int) := by omega
   have a1 : (0 : Int) ≤ (k : Int) := by omega
   clear hk2
   go_wp2
   exact ⟨⟨k + 1, by go_num, by omega, trivial⟩, by simp [intOf]; omega⟩
  ·obtain rfl : k = K := by omega
   have hz : k < s.size := by have := HN.out; have := HN0.out; omega
   obtain ⟨B, hB⟩ : ∃ B : Nat, (s[k]'hz).toNat = B := ⟨_, rfl⟩
   have hB48 := Z2.out hz
   rw [hB] at hB48
   have e0 : ((s[k]'hz).toNat : Int) = (B : Int) := by rw [hB]
   have e1 : ((B : Int) == 48) = false := by rw [beq_eq_false_iff_ne]; omega
   have a2 : (k : Int) < (s.size : Int) := by omega
   have a1 : (0 : Int) ≤ (k : Int) := by omega
   have a3 : (k : Int) ≤ (s.size : Int) := by omega
   have a4 : ((s.size - k : Nat) : Int) = (N : Int) := by rw [HN.out]
   clear hk2 hB hB48
   have hext : s.extract k s.size = g := HG.out
   have b4 : (g.size : Int) = (N : Int) := by rw [HGN.out]
   go_wp2
   clear a1 a2 a3 e0 e1 hext hz b4
   go_loopw [6, 7] (fun v i wr => ∃ j : Nat, i = .int .i64 (810 + (j : Int)) ∧ 810 + j ≤ N ∧ v = .bool ((((bl g).drop 810).take j).any (· != 48)) ∧ w = wr) (fun _ i _ => N - (intOf i).toNat)
   case atStart => exact ⟨0, rfl, by have := HN8.out; omega, rfl, rfl⟩
   case round =>
    obtain ⟨j, rfl, hj, rfl, rfl⟩ := hrel
    by_cases hjl : 810 + j < N
    ·have hgs : 810 + j < g.size := by rw [HGN.out]; exact hjl
     obtain ⟨D8, hD8⟩ : ∃ D8 : Nat, (g[810 + j]'hgs).toNat = D8 := ⟨_, rfl⟩
     have hstep : (((bl g).drop 810).take (j + 1)).any (· != 48) = ((((bl g).drop 810).take j).any (· != 48) || (D8 != 48)) := by
      rw [List.take_add_one, List.getElem?_drop, bl_get g (810 + j) hgs, hD8, List.any_append]
      simp
     have b0 : ((810 + (j : Int)) : Int) < (N : Int) := by omega
     have b1 : (0 : Int) ≤ 810 + (j : Int) := by omega
     have b2 : (810 + (j : Int)).toNat = 810 + j := by omega
     have b3 : ((g[810 + j]'hgs).toNat : Int) = (D8 : Int) := by rw [hD8]
     have b4 : (g.size : Int) = (N : Int) := by rw [HGN.out]
     have b5 : 810 + (j : Int) < (g.size : Int) := by omega
     obtain ⟨r, hr⟩ : ∃ r, (((bl g).drop 810).take j).any (· != 48) = r := ⟨_, rfl⟩
     rw [hr] at hstep ⊢
     have HST := Lib.hid hstep
     clear hstep hr hD8
     cases r
     ·cases h48 : (D8 != 48)
      ·have b6 : ((D8 : Int) != 48) = false := by rw [bne_eq_false_iff_eq]; have := bne_eq_false_iff_eq.1 h48; omega
       have HS2 := Lib.hid (show (((bl g).drop 810).take (j + 1)).any (· != 48) = false from by rw [HST.out, h48]; rfl)
       clear h48
       go_wp2
       exact ⟨⟨j + 1, by go_num, by omega, by rw [HS2.out], trivial⟩, by simp [intOf]; omega⟩
      ·have b6 : ((D8 : Int) != 48) = true := by rw [bne_iff_ne]; have := bne_iff_ne.1 h48; omega
       have HS2 := Lib.hid (show (((bl g).drop 810).take (j + 1)).any (· != 48) = true from by rw [HST.out, h48]; rfl)
       clear h48
       go_wp2
       exact ⟨⟨j + 1, by go_num, by omega, by rw [HS2.out], trivial⟩, by simp [intOf]; omega⟩
     ·have HS2 := Lib.hid (show (((bl g).drop 810).take (j + 1)).any (· != 48) = true from by rw [HST.out]; rfl)
      go_wp2
      exact ⟨⟨j + 1, by go_num, by omega, by rw [HS2.out], trivial⟩, by simp [intOf]; omega⟩
    ·have hz2 : (((bl g).drop 810).take j).any (· != 48) = true := by
      rw [List.take_of_length_le (by rw [List.length_drop, bl_size, HGN.out]; omega)]
      exact HRB.out
     rw [hz2]
     have b4 : (g.size : Int) = (N : Int) := by rw [HGN.out]
     have b0 : decide (810 + (j : Int) < (N : Int)) = false := decide_eq_false (by omega)
     have b5 : (810 : Int) ≤ (g.size : Int) := by have := HN8.out; omega
     clear hz2
     go_wp2_with fail
     refine (C3.out _).mono ?_
     rintro e w1 ⟨A1, n1, c1, rfl, g1, b1⟩
     have G1 := Lib.hid g1
     have B1 := Lib.hid b1
     clear g1 b1
     go_wp2_with fail
     refine (C4.out _).mono ?_
     rintro e w2 ⟨A2, n2, c2, rfl, g2, b2⟩
     have G2 := Lib.hid g2
     have G1a := Lib.hid (G1.out.step b2)
     have B2 := Lib.hid (below_le B1.out b2)
     clear g2 b2
     go_wp2_with fail
     refine (C5.out _ _ _ _ G2.out).mono ?_
     rintro e w3 ⟨rfl, b3⟩
     have G2a := Lib.hid (G2.out.step b3)
     have G1b := Lib.hid (G1a.out.step b3)
     have B3 := Lib.hid (below_le B2.out b3)
     clear b3
     go_wp2_with fail
     refine (C6.out _ _ _ _ G1b.out).mono ?_
     rintro e w4 ⟨rfl, b4⟩
     have G2b := Lib.hid (G2a.out.step b4)
     have G1c := Lib.hid (G1b.out.step b4)
     have B4 := Lib.hid (below_le B3.out b4)
     clear b4
     go_wp2_with fail
     refine (C7.out _ _ _ _ G1c.out).mono ?_
     rintro e w5 ⟨A5, n5, c5, rfl, g5, b5⟩
     have G5 := Lib.hid g5
     have G25 := Lib.hid (G2b.out.step b5)
     have B5 := Lib.hid (below_le B4.out b5)
     clear g5 b5
     go_wp2_with fail
     refine (C8.out _ _ _ _ _ _ _ G5.out G25.out).mono ?_
     rintro e w6 ⟨A6, n6, c6, A7, n7, c7, rfl, g6, g7, b6⟩
     have G6 := Lib.hid g6
     have B6 := Lib.hid (below_le B5.out b6)
     have hn7 : (0 : Int) < (n7 : Int) := by
      have h1 := g7.len
      have h2 : (wds (M % D)) ≠ [] := fun e => HREM.out (by have h3 := wds_val (M % D); rw [e] at h3; exact h3.symm)
      have := List.length_pos_iff.2 h2
      omega
     clear g6 g7 b6
     go_wp2_with fail
     refine (C9.out _ _ _ _ G6.out).mono ?_
     rintro e w7 ⟨A8, n8, c8, rfl, g8, b7⟩
     have G8 := Lib.hid g8
     have B7 := Lib.hid (below_le B6.out b7)
     clear g8 b7
     have bl := Lib.hid (show Below w7.heap.size w7 (w7.alloc (.cells #[.int .u32 1] 42)) from (Below.refl _ _).alloc (Nat.le_refl _) _)
     have C10' := Lib.hid (C10.out _ _ _ _ _ _ _ (G8.out.step bl.out) (NV.lit w7 1 (by omega) (by omega)))
     go_wp2_with fail
     refine C10'.out.mono ?_
     rintro e w8 ⟨A9, n9, c9, rfl, g9, b8⟩
     have G9 := Lib.hid g9
     have B8 := Lib.hid (below_le (below_le B7.out bl.out) b8)
     clear g9 b8
     go_wp2_with fail
     refine (C11.out _ _ _ _ G9.out).mono ?_
     rintro e w9 ⟨rfl, b9⟩
     have B9 := Lib.hid (below_le B8.out b9)
     clear b9
     go_wp2
     go_ret
     exact ⟨rfl, B9.out⟩

end Go.Proofs.YtfcpkdafkmohkaaGreatDoor
namespace Go.Proofs.YtfcpkdafkmohkaaGreatDoor
open Go.RowKit
set_option maxRecDepth 100000 in
set_option maxHeartbeats 2000000 in
theorem ydec_longn_pos (s : ByteArray) (K N : Nat) (X P : Int) (m F : Nat) (D M : Nat) (g : ByteArray) (y1 : Int) (E : Int) (w : World) (hs : s.size ≤ 281474976710656) (hK : K ≤ s.size) (hN : s.size - K = N)
  (Z1 : Hid (∀ k (h : k < s.size), k < K → (s[k]'h).toNat = 48)) (Z2 : Hid (∀ h : K < s.size, (s[K]'h).toNat ≠ 48))
  (hN0 : 0 < N) (p1 : wrap64 ((N : Int) + X) = P) (t0 : ((N : Int) == 0) = false) (t1 : decide (400 < P) = false) (t2 : decide (P < -400) = false) (t3 : decide (820 < (N : Int)) = true)
  (hg : s.extract K s.size = g) (hgN : g.size = N) (hN8 : 820 < N) (hrb : ((bl g).drop 810).any (· != 48) = false)
  (q0 : wrap64 (X + (N : Int)) = y1) (q1 : wrap64 (y1 - 810) = E)
  (C3 : Hid (∀ W, Cp 165 #[.string (g.extract 0 810), .int .i64 10] W (NOk m W)))
  (C4 : Hid (∀ W, Cp 115 #[.int .i64 E] W (NRet D W)))
  (C5 : Hid (∀ W A1 n1 c1 A2 n2 c2, NV W A1 n1 c1 m → NV W A2 n2 c2 D → Cp 51 #[.slice A1 n1 c1, .slice A2 n2 c2] W (NRet M W)))
  (C6 : Hid (∀ W A1 n1 c1, NV W A1 n1 c1 M → Ct 154 #[.slice A1 n1 c1, .int .i64 0] (.float .f64 F) W))
  (u0 : decide (0 ≤ E) = true) :
  Ct 104 #[.string s, .int .i64 X] (.float .f64 F) w := by
 have h1 : (s.size : Int) ≤ 281474976710656 := by omega
 have HN := Lib.hid hN
 have HK := Lib.hid hK
 have HN0 := Lib.hid hN0
 have HG := Lib.hid hg
 have HGN := Lib.hid hgN
 have HN8 := Lib.hid hN8
 have HRB := Lib.hid hrb
 clear hs hK hN hN0 hg hgN hN8 hrb
 go_enter Tryz.func104, Tryz.ntmps104
 go_wp2
 go_loopw [5] (fun i wr => ∃ k : Nat, i = .int .i64 k ∧ k ≤ K ∧ w = wr) (fun i _ => K - (intOf i).toNat)
 case atStart => exact ⟨0, rfl, Nat.zero_le _, rfl⟩
 case round =>
  obtain ⟨k, rfl, hk, rfl⟩ := hrel
  have hk2 := HK.out
  by_cases hlt : k < K
  ·have hks : k < s.size := by omega
   have e0 : ((s[k]'hks).toNat : Int) = 48 := by rw [Z1.out k hks hlt]; rfl
   have a2 : (k : Int) < (s.size : Int) := by omega
   have a1 : (0 : Int) ≤ (k : Int) := by omega
   clear hk2
   go_wp2
   exact ⟨⟨k + 1, by go_num, by omega, trivial⟩, by simp [intOf]; omega⟩
  ·obtain rfl : k = K := by omega
   have hz : k < s.size := by have := HN.out; have := HN0.out; omega
   obtain ⟨B, hB⟩ : ∃ B : Nat, (s[k]'hz).toNat = B := ⟨_, rfl⟩
   have hB48 := Z2.out hz
   rw [hB] at hB48
   have e0 : ((s[k]'hz).toNat : Int) = (B : Int) := by rw [hB]
   have e1 : ((B : Int) == 48) = false := by rw [beq_eq_false_iff_ne]; omega
   have a2 : (k : Int) < (s.size : Int) := by omega
   have a1 : (0 : Int) ≤ (k : Int) := by omega
   have a3 : (k : Int) ≤ (s.size : Int) := by omega
   have a4 : ((s.size - k : Nat) : Int) = (N : Int) := by rw [HN.out]
   clear hk2 hB hB48
   have hext : s.extract k s.size = g := HG.out
   have b4 : (g.size : Int) = (N : Int) := by rw [HGN.out]
   go_wp2
   clear a1 a2 a3 e0 e1 hext hz b4
   go_loopw [6, 7] (fun v i wr => ∃ j : Nat, i = .int .i64 (810 + (j : Int)) ∧ 810 + j ≤ N ∧ v = .bool ((((bl g).drop 810).take j).any (· != 48)) ∧ w = wr) (fun _ i _ => N - (intOf i).toNat)
   case atStart => exact ⟨0, rfl, by have := HN8.out; omega, rfl, rfl⟩
   case round =>
    obtain ⟨j, rfl, hj, rfl, rfl⟩ := hrel
    by_cases hjl : 810 + j < N
    ·have hgs : 810 + j < g.size := by rw [HGN.out]; exact hjl
     obtain ⟨D8, hD8⟩ : ∃ D8 : Nat, (g[810 + j]'hgs).toNat = D8 := ⟨_, rfl⟩
     have hstep : (((bl g).drop 810).take (j + 1)).any (· != 48) = ((((bl g).drop 810).take j).any (· != 48) || (D8 != 48)) := by
      rw [List.take_add_one, List.getElem?_drop, bl_get g (810 + j) hgs, hD8, List.any_append]
      simp
     have b0 : ((810 + (j : Int)) : Int) < (N : Int) := by omega
     have b1 : (0 : Int) ≤ 810 + (j : Int) := by omega
     have b2 : (810 + (j : Int)).toNat = 810 + j := by omega
     have b3 : ((g[810 + j]'hgs).toNat : Int) = (D8 : Int) := by rw [hD8]
     have b4 : (g.size : Int) = (N : Int) := by rw [HGN.out]
     have b5 : 810 + (j : Int) < (g.size : Int) := by omega
     obtain ⟨r, hr⟩ : ∃ r, (((bl g).drop 810).take j).any (· != 48) = r := ⟨_, rfl⟩
     rw [hr] at hstep ⊢
     have HST := Lib.hid hstep
     clear hstep hr hD8
     cases r
     ·cases h48 : (D8 != 48)
      ·have b6 : ((D8 : Int) != 48) = false := by rw [bne_eq_false_iff_eq]; have := bne_eq_false_iff_eq.1 h48; omega
       have HS2 := Lib.hid (show (((bl g).drop 810).take (j + 1)).any (· != 48) = false from by rw [HST.out, h48]; rfl)
       clear h48
       go_wp2
       exact ⟨⟨j + 1, by go_num, by omega, by rw [HS2.out], trivial⟩, by simp [intOf]; omega⟩
      ·have b6 : ((D8 : Int) != 48) = true := by rw [bne_iff_ne]; have := bne_iff_ne.1 h48; omega
       have HS2 := Lib.hid (show (((bl g).drop 810).take (j + 1)).any (· != 48) = true from by rw [HST.out, h48]; rfl)
       clear h48
       go_wp2
       exact ⟨⟨j + 1, by go_num, by omega, by rw [HS2.out], trivial⟩, by simp [intOf]; omega⟩
     ·have HS2 := Lib.hid (show (((bl g).drop 810).take (j + 1)).any (· != 48) = true from by rw [HST.out]; rfl)
      go_wp2
      exact ⟨⟨j + 1, by go_num, by omega, by rw [HS2.out], trivial⟩, by simp [intOf]; omega⟩
    ·have hz2 : (((bl g).drop 810).take j).any (· != 48) = false := by
      rw [List.take_of_length_le (by rw [List.length_drop, bl_size, HGN.out]; omega)]
      exact HRB.out
     rw [hz2]
     have b4 : (g.size : Int) = (N : Int) := by rw [HGN.out]
     have b0 : decide (810 + (j : Int) < (N : Int)) = false := decide_eq_false (by omega)
     have b5 : (810 : Int) ≤ (g.size : Int) := by have := HN8.out; omega
     clear hz2
     go_wp2_with fail
     refine (C3.out _).mono ?_
     rintro e w1 ⟨A1, n1, c1, rfl, g1, b1⟩
     have G1 := Lib.hid g1
     have B1 := Lib.hid b1
     clear g1 b1
     go_wp2_with fail
     refine (C4.out _).mono ?_
     rintro e w2 ⟨A2, n2, c2, rfl, g2, b2⟩
     have G2 := Lib.hid g2
     have G1a := Lib.hid (G1.out.step b2)
     have B2 := Lib.hid (below_le B1.out b2)
     clear g2 b2
     go_wp2_with fail
     refine (C5.out _ _ _ _ _ _ _ G1a.out G2.out).mono ?_
     rintro e w3 ⟨A3, n3, c3, rfl, g3, b3⟩
     have G3 := Lib.hid g3
     have B3 := Lib.hid (below_le B2.out b3)
     clear g3 b3
     go_wp2_with fail
     refine (C6.out _ _ _ _ G3.out).mono ?_
     rintro e w4 ⟨rfl, b4⟩
     have B4 := Lib.hid (below_le B3.out b4)
     clear b4
     go_wp2
     go_ret
     exact ⟨rfl, B4.out⟩
set_option maxRecDepth 100000 in
set_option maxHeartbeats 2000000 in
theorem ydec_longn_neg00 (s : ByteArray) (K N : Nat) (X P : Int) (m F : Nat) (D M Q bd ba : Nat) (x1 up Y : Int) (g : ByteArray) (y1 : Int) (E : Int) (w : World) (hs : s.size ≤ 281474976710656) (hK : K ≤ s.size) (hN : s.size - K = N)
  (Z1 : Hid (∀ k (h : k < s.size), k < K → (s[k]'h).toNat = 48)) (Z2 : Hid (∀ h : K < s.size, (s[K]'h).toNat ≠ 48))
  (hN0 : 0 < N) (p1 : wrap64 ((N : Int) + X) = P) (t0 : ((N : Int) == 0) = false) (t1 : decide (400 < P) = false) (t2 : decide (P < -400) = false) (t3 : decide (820 < (N : Int)) = true)
  (hg : s.extract K s.size = g) (hgN : g.size = N) (hN8 : 820 < N) (hrb : ((bl g).drop 810).any (· != 48) = false)
  (q0 : wrap64 (X + (N : Int)) = y1) (q1 : wrap64 (y1 - 810) = E)
  (C3 : Hid (∀ W, Cp 165 #[.string (g.extract 0 810), .int .i64 10] W (NOk m W)))
  (C4 : Hid (∀ W, Cp 115 #[.int .i64 (-E)] W (NRet D W)))
  (C5 : Hid (∀ W A1 n1 c1, NV W A1 n1 c1 D → Ct 163 #[.slice A1 n1 c1] (.int .i64 (bd : Nat)) W))
  (C6 : Hid (∀ W A1 n1 c1, NV W A1 n1 c1 m → Ct 163 #[.slice A1 n1 c1] (.int .i64 (ba : Nat)) W))
  (C7 : Hid (∀ W A1 n1 c1, NV W A1 n1 c1 m → Cp 102 #[.slice A1 n1 c1, .int .i64 0] W (NRet M W)))
  (C8 : Hid (∀ W A1 n1 c1 A2 n2 c2, NV W A1 n1 c1 M → NV W A2 n2 c2 D → Cp 49 #[.slice A1 n1 c1, .slice A2 n2 c2] W (HRet M D W)))
  (C9 : Hid (∀ W A1 n1 c1, NV W A1 n1 c1 (M / D) → Cp 102 #[.slice A1 n1 c1, .int .i64 1] W (NRet Q W)))
  (C11 : Hid (∀ W A1 n1 c1, NV W A1 n1 c1 Q → Ct 154 #[.slice A1 n1 c1, .int .i64 Y] (.float .f64 F) W))
  (hrem : M % D = 0)
  (u0 : decide (0 ≤ E) = false) (u1 : wrap64 (-E) = -E) (u2 : wrap64 ((bd : Int) - (ba : Int)) = x1) (u3 : wrap64 (x1 + 70) = up) (u4 : decide (up < 0) = true) (u6 : Y = -1) :
  Ct 104 #[.string s, .int .i64 X] (.float .f64 F) w := by
 have h1 : (s.size : Int) ≤ 281474976710656 := by omega
 have HN := Lib.hid hN
 have HK := Lib.hid hK
 have HN0 := Lib.hid hN0
 have HREM := Lib.hid hrem
 subst u6
 have HG := Lib.hid hg
 have HGN := Lib.hid hgN
 have HN8 := Lib.hid hN8
 have HRB := Lib.hid hrb
 clear hs hK hN hN0 hrem hg hgN hN8 hrb
 go_enter Tryz.func104, Tryz.ntmps104
 go_wp2
 go_loopw [5] (fun i wr => ∃ k : Nat, i = .int .i64 k ∧ k ≤ K ∧ w = wr) (fun i _ => K - (intOf i).toNat)
 case atStart => exact ⟨0, rfl, Nat.zero_le _, rfl⟩
 case round =>
  obtain ⟨k, rfl, hk, rfl⟩ := hrel
  have hk2 := HK.out
  by_cases hlt : k < K
  ·have hks : k < s.size := by omega
   have e0 : ((s[k]'hks).toNat : Int) = 48 := by rw [Z1.out k hks hlt]; rfl
   have a2 : (k : Int) < (s.size : Int) := by omega
   have a1 : (0 : Int) ≤ (k : Int) := by omega
   clear hk2
   go_wp2
   exact ⟨⟨k + 1, by go_num, by omega, trivial⟩, by simp [intOf]; omega⟩
  ·obtain rfl : k = K := by omega
   have hz : k < s.size := by have := HN.out; have := HN0.out; omega
   obtain ⟨B, hB⟩ : ∃ B : Nat, (s[k]'hz).toNat = B := ⟨_, rfl⟩
   have hB48 := Z2.out hz
   rw [hB] at hB48
   have e0 : ((s[k]'hz).toNat : Int) = (B : Int) := by rw [hB]
   have e1 : ((B : Int) == 48) = false := by rw [beq_eq_false_iff_ne]; omega
   have a2 : (k : Int) < (s.size : Int) := by omega
   have a1 : (0 : Int) ≤ (k : Int) := by omega
   have a3 : (k : Int) ≤ (s.size : Int) := by omega
   have a4 : ((s.size - k : Nat) : Int) = (N : Int) := by rw [HN.out]
   clear hk2 hB hB48
   have hext : s.extract k s.size = g := HG.out
   have b4 : (g.size : Int) = (N : Int) := by rw [HGN.out]
   go_wp2
   clear a1 a2 a3 e0 e1 hext hz b4
   go_loopw [6, 7] (fun v i wr => ∃ j : Nat, i = .int .i64 (810 + (j : Int)) ∧ 810 + j ≤ N ∧ v = .bool ((((bl g).drop 810).take j).any (· != 48)) ∧ w = wr) (fun _ i _ => N - (intOf i).toNat)
   case atStart => exact ⟨0, rfl, by have := HN8.out; omega, rfl, rfl⟩
   case round =>
    obtain ⟨j, rfl, hj, rfl, rfl⟩ := hrel
    by_cases hjl : 810 + j < N
    ·have hgs : 810 + j < g.size := by rw [HGN.out]; exact hjl
     obtain ⟨D8, hD8⟩ : ∃ D8 : Nat, (g[810 + j]'hgs).toNat = D8 := ⟨_, rfl⟩
     have hstep : (((bl g).drop 810).take (j + 1)).any (· != 48) = ((((bl g).drop 810).take j).any (· != 48) || (D8 != 48)) := by
      rw [List.take_add_one, List.getElem?_drop, bl_get g (810 + j) hgs, hD8, List.any_append]
      simp
     have b0 : ((810 + (j : Int)) : Int) < (N : Int) := by omega
     have b1 : (0 : Int) ≤ 810 + (j : Int) := by omega
     have b2 : (810 + (j : Int)).toNat = 810 + j := by omega
     have b3 : ((g[810 + j]'hgs).toNat : Int) = (D8 : Int) := by rw [hD8]
     have b4 : (g.size : Int) = (N : Int) := by rw [HGN.out]
     have b5 : 810 + (j : Int) < (g.size : Int) := by omega
     obtain ⟨r, hr⟩ : ∃ r, (((bl g).drop 810).take j).any (· != 48) = r := ⟨_, rfl⟩
     rw [hr] at hstep ⊢
     have HST := Lib.hid hstep
     clear hstep hr hD8
     cases r
     ·cases h48 : (D8 != 48)
      ·have b6 : ((D8 : Int) != 48) = false := by rw [bne_eq_false_iff_eq]; have := bne_eq_false_iff_eq.1 h48; omega
       have HS2 := Lib.hid (show (((bl g).drop 810).take (j + 1)).any (· != 48) = false from by rw [HST.out, h48]; rfl)
       clear h48
       go_wp2
       exact ⟨⟨j + 1, by go_num, by omega, by rw [HS2.out], trivial⟩, by simp [intOf]; omega⟩
      ·have b6 : ((D8 : Int) != 48) = true := by rw [bne_iff_ne]; have := bne_iff_ne.1 h48; omega
       have HS2 := Lib.hid (show (((bl g).drop 810).take (j + 1)).any (· != 48) = true from by rw [HST.out, h48]; rfl)
       clear h48
       go_wp2
       exact ⟨⟨j + 1, by go_num, by omega, by rw [HS2.out], trivial⟩, by simp [intOf]; omega⟩
     ·have HS2 := Lib.hid (show (((bl g).drop 810).take (j + 1)).any (· != 48) = true from by rw [HST.out]; rfl)
      go_wp2
      exact ⟨⟨j + 1, by go_num, by omega, by rw [HS2.out], trivial⟩, by simp [intOf]; omega⟩
    ·have hz2 : (((bl g).drop 810).take j).any (· != 48) = false := by
      rw [List.take_of_length_le (by rw [List.length_drop, bl_size, HGN.out]; omega)]
      exact HRB.out
     rw [hz2]
     have b4 : (g.size : Int) = (N : Int) := by rw [HGN.out]
     have b0 : decide (810 + (j : Int) < (N : Int)) = false := decide_eq_false (by omega)
     have b5 : (810 : Int) ≤ (g.size : Int) := by have := HN8.out; omega
     clear hz2
     go_wp2_with fail
     refine (C3.out _).mono ?_
     rintro e w1 ⟨A1, n1, c1, rfl, g1, b1⟩
     have G1 := Lib.hid g1
     have B1 := Lib.hid b1
     clear g1 b1
     go_wp2_with fail
     refine (C4.out _).mono ?_
     rintro e w2 ⟨A2, n2, c2, rfl, g2, b2⟩
     have G2 := Lib.hid g2
     have G1a := Lib.hid (G1.out.step b2)
     have B2 := Lib.hid (below_le B1.out b2)
     clear g2 b2
     go_wp2_with fail
     refine (C5.out _ _ _ _ G2.out).mono ?_
     rintro e w3 ⟨rfl, b3⟩
     have G2a := Lib.hid (G2.out.step b3)
     have G1b := Lib.hid (G1a.out.step b3)
     have B3 := Lib.hid (below_le B2.out b3)
     clear b3
     go_wp2_with fail
     refine (C6.out _ _ _ _ G1b.out).mono ?_
     rintro e w4 ⟨rfl, b4⟩
     have G2b := Lib.hid (G2a.out.step b4)
     have G1c := Lib.hid (G1b.out.step b4)
     have B4 := Lib.hid (below_le B3.out b4)
     clear b4
     go_wp2_with fail
     refine (C7.out _ _ _ _ G1c.out).mono ?_
     rintro e w5 ⟨A5, n5, c5, rfl, g5, b5⟩
     have G5 := Lib.hid g5
     have G25 := Lib.hid (G2b.out.step b5)
     have B5 := Lib.hid (below_le B4.out b5)
     clear g5 b5
     go_wp2_with fail
     refine (C8.out _ _ _ _ _ _ _ G5.out G25.out).mono ?_
     rintro e w6 ⟨A6, n6, c6, A7, n7, c7, rfl, g6, g7, b6⟩
     have G6 := Lib.hid g6
     have B6 := Lib.hid (below_le B5.out b6)
     obtain rfl : n7 = 0 := by
      have h1 := g7.len
      rw [HREM.out] at h1
      exact h1.symm
     clear g6 g7 b6
     go_wp2_with fail
     refine (C9.out _ _ _ _ G6.out).mono ?_
     rintro e w7 ⟨A8, n8, c8, rfl, g8, b7⟩
     have G8 := Lib.hid g8
     have B7 := Lib.hid (below_le B6.out b7)
     clear g8 b7
     go_wp2_with fail
     refine (C11.out _ _ _ _ G8.out).mono ?_
     rintro e w9 ⟨rfl, b9⟩
     have B9 := Lib.hid (below_le B7.out b9)
     clear b9
     go_wp2
     go_ret
     exact ⟨rfl, B9.out⟩
set_option maxRecDepth 100000 in
set_option maxHeartbeats 2000000 in
theorem ydec_longn_neg01 (s : ByteArray) (K N : Nat) (X P : Int) (m F : Nat) (D M Q Q2 bd ba : Nat) (x1 up Y : Int) (g : ByteArray) (y1 : Int) (E : Int) (w : World) (hs : s.size ≤ 281474976710656) (hK : K ≤ s.size) (hN : s.size - K = N)
  (Z1 : Hid (∀ k (h : k < s.size), k < K → (s[k]'h).toNat = 48)) (Z2 : Hid (∀ h : K < s.size, (s[K]'h).toNat ≠ 48))
  (hN0 : 0 < N) (p1 : wrap64 ((N : Int) + X) = P) (t0 : ((N : Int) == 0) = false) (t1 : decide (400 < P) = false) (t2 : decide (P < -400) = false) (t3 : decide (820 < (N : Int)) = true)
  (hg : s.extract K s.size = g) (hgN : g.size = N) (hN8 : 820 < N) (hrb : ((bl g).drop 810).any (· != 48) = false)
  (q0 : wrap64 (X + (N : Int)) = y1) (q1 : wrap64 (y1 - 810) = E)
  (C3 : Hid (∀ W, Cp 165 #[.string (g.extract 0 810), .int .i64 10] W (NOk m W)))
  (C4 : Hid (∀ W, Cp 115 #[.int .i64 (-E)] W (NRet D W)))
  (C5 : Hid (∀ W A1 n1 c1, NV W A1 n1 c1 D → Ct 163 #[.slice A1 n1 c1] (.int .i64 (bd : Nat)) W))
  (C6 : Hid (∀ W A1 n1 c1, NV W A1 n1 c1 m → Ct 163 #[.slice A1 n1 c1] (.int .i64 (ba : Nat)) W))
  (C7 : Hid (∀ W A1 n1 c1, NV W A1 n1 c1 m → Cp 102 #[.slice A1 n1 c1, .int .i64 0] W (NRet M W)))
  (C8 : Hid (∀ W A1 n1 c1 A2 n2 c2, NV W A1 n1 c1 M → NV W A2 n2 c2 D → Cp 49 #[.slice A1 n1 c1, .slice A2 n2 c2] W (HRet M D W)))
  (C9 : Hid (∀ W A1 n1 c1, NV W A1 n1 c1 (M / D) → Cp 102 #[.slice A1 n1 c1, .int .i64 1] W (NRet Q W)))
  (C10 : Hid (∀ W A1 n1 c1 A2 n2 c2, NV W A1 n1 c1 Q → NV W A2 n2 c2 1 → Cp 103 #[.slice A1 n1 c1, .slice A2 n2 c2] W (NRet Q2 W)))
  (C11 : Hid (∀ W A1 n1 c1, NV W A1 n1 c1 Q2 → Ct 154 #[.slice A1 n1 c1, .int .i64 Y] (.float .f64 F) W))
  (hrem : M % D ≠ 0)
  (u0 : decide (0 ≤ E) = false) (u1 : wrap64 (-E) = -E) (u2 : wrap64 ((bd : Int) - (ba : Int)) = x1) (u3 : wrap64 (x1 + 70) = up) (u4 : decide (up < 0) = true) (u6 : Y = -1) :
  Ct 104 #[.string s, .int .i64 X] (.float .f64 F) w := by
 have h1 : (s.size : Int) ≤ 281474976710656 := by omega
 have HN := Lib.hid hN
 have HK := Lib.hid hK
 have HN0 := Lib.hid hN0
 have HREM := Lib.hid hrem
 subst u6
 have HG := Lib.hid hg
 have HGN := Lib.hid hgN
 have HN8 := Lib.hid hN8
 have HRB := Lib.hid hrb
 clear hs hK hN hN0 hrem hg hgN hN8 hrb
 go_enter Tryz.func104, Tryz.ntmps104
 go_wp2
 go_loopw [5] (fun i wr => ∃ k : Nat, i = .int .i64 k ∧ k ≤ K ∧ w = wr) (fun i _ => K - (intOf i).toNat)
 case atStart => exact ⟨0, rfl, Nat.zero_le _, rfl⟩
 case round =>
  obtain ⟨k, rfl, hk, rfl⟩ := hrel
  have hk2 := HK.out
  by_cases hlt : k < K
  ·have hks : k < s.size := by omega
   have e0 : ((s[k]'hks).toNat : Int) = 48 := by rw [Z1.out k hks hlt]; rfl
   have a2 : (k : Int) < (s.size : Int) := by omega
   have a1 : (0 : Int) ≤ (k : Int) := by omega
   clear hk2
   go_wp2
   exact ⟨⟨k + 1, by go_num, by omega, trivial⟩, by simp [intOf]; omega⟩
  ·obtain rfl : k = K := by omega
   have hz : k < s.size := by have := HN.out; have := HN0.out; omega
   obtain ⟨B, hB⟩ : ∃ B : Nat, (s[k]'hz).toNat = B := ⟨_, rfl⟩
   have hB48 := Z2.out hz
   rw [hB] at hB48
   have e0 : ((s[k]'hz).toNat : Int) = (B : Int) := by rw [hB]
   have e1 : ((B : Int) == 48) = false := by rw [beq_eq_false_iff_ne]; omega
   have a2 : (k : Int) < (s.size : Int) := by omega
   have a1 : (0 : Int) ≤ (k : Int) := by omega
   have a3 : (k : Int) ≤ (s.size : Int) := by omega
   have a4 : ((s.size - k : Nat) : Int) = (N : Int) := by rw [HN.out]
   clear hk2 hB hB48
   have hext : s.extract k s.size = g := HG.out
   have b4 : (g.size : Int) = (N : Int) := by rw [HGN.out]
   go_wp2
   clear a1 a2 a3 e0 e1 hext hz b4
   go_loopw [6, 7] (fun v i wr => ∃ j : Nat, i = .int .i64 (810 + (j : Int)) ∧ 810 + j ≤ N ∧ v = .bool ((((bl g).drop 810).take j).any (· != 48)) ∧ w = wr) (fun _ i _ => N - (intOf i).toNat)
   case atStart => exact ⟨0, rfl, by have := HN8.out; omega, rfl, rfl⟩
   case round =>
    obtain ⟨j, rfl, hj, rfl, rfl⟩ := hrel
    by_cases hjl : 810 + j < N
    ·have hgs : 810 + j < g.size := by rw [HGN.out]; exact hjl
     obtain ⟨D8, hD8⟩ : ∃ D8 : Nat, (g[810 + j]'hgs).toNat = D8 := ⟨_, rfl⟩
     have hstep : (((bl g).drop 810).take (j + 1)).any (· != 48) = ((((bl g).drop 810).take j).any (· != 48) || (D8 != 48)) := by
      rw [List.take_add_one, List.getElem?_drop, bl_get g (810 + j) hgs, hD8, List.any_append]
      simp
     have b0 : ((810 + (j : Int)) : Int) < (N : Int) := by omega
     have b1 : (0 : Int) ≤ 810 + (j : Int) := by omega
     have b2 : (810 + (j : Int)).toNat = 810 + j := by omega
     have b3 : ((g[810 + j]'hgs).toNat : Int) = (D8 : Int) := by rw [hD8]
     have b4 : (g.size : Int) = (N : Int) := by rw [HGN.out]
     have b5 : 810 + (j : Int) < (g.size : Int) := by omega
     obtain ⟨r, hr⟩ : ∃ r, (((bl g).drop 810).take j).any (· != 48) = r := ⟨_, rfl⟩
     rw [hr] at hstep ⊢
     have HST := Lib.hid hstep
     clear hstep hr hD8
     cases r
     ·cases h48 : (D8 != 48)
      ·have b6 : ((D8 : Int) != 48) = false := by rw [bne_eq_false_iff_eq]; have := bne_eq_false_iff_eq.1 h48; omega
       have HS2 := Lib.hid (show (((bl g).drop 810).take (j + 1)).any (· != 48) = false from by rw [HST.out, h48]; rfl)
       clear h48
       go_wp2
       exact ⟨⟨j + 1, by go_num, by omega, by rw [HS2.out], trivial⟩, by simp [intOf]; omega⟩
      ·have b6 : ((D8 : Int) != 48) = true := by rw [bne_iff_ne]; have := bne_iff_ne.1 h48; omega
       have HS2 := Lib.hid (show (((bl g).drop 810).take (j + 1)).any (· != 48) = true from by rw [HST.out, h48]; rfl)
       clear h48
       go_wp2
       exact ⟨⟨j + 1, by go_num, by omega, by rw [HS2.out], trivial⟩, by simp [intOf]; omega⟩
     ·have HS2 := Lib.hid (show (((bl g).drop 810).take (j + 1)).any (· != 48) = true from by rw [HST.out]; rfl)
      go_wp2
      exact ⟨⟨j + 1, by go_num, by omega, by rw [HS2.out], trivial⟩, by simp [intOf]; omega⟩
    ·have hz2 : (((bl g).drop 810).take j).any (· != 48) = false := by
      rw [List.take_of_length_le (by rw [List.length_drop, bl_size, HGN.out]; omega)]
      exact HRB.out
     rw [hz2]
     have b4 : (g.size : Int) = (N : Int) := by rw [HGN.out]
     have b0 : decide (810 + (j : Int) < (N : Int)) = false := decide_eq_false (by omega)
     have b5 : (810 : Int) ≤ (g.size : Int) := by have := HN8.out; omega
     clear hz2
     go_wp2_with fail
     refine (C3.out _).mono ?_
     rintro e w1 ⟨A1, n1, c1, rfl, g1, b1⟩
     have G1 := Lib.hid g1
     have B1 := Lib.hid b1
     clear g1 b1
     go_wp2_with fail
     refine (C4.out _).mono ?_
     rintro e w2 ⟨A2, n2, c2, rfl, g2, b2⟩
     have G2 := Lib.hid g2
     have G1a := Lib.hid (G1.out.step b2)
     have B2 := Lib.hid (below_le B1.out b2)
     clear g2 b2
     go_wp2_with fail
     refine (C5.out _ _ _ _ G2.out).mono ?_
     rintro e w3 ⟨rfl, b3⟩
     have G2a := Lib.hid (G2.out.step b3)
     have G1b := Lib.hid (G1a.out.step b3)
     have B3 := Lib.hid (below_le B2.out b3)
     clear b3
     go_wp2_with fail
     refine (C6.out _ _ _ _ G1b.out).mono ?_
     rintro e w4 ⟨rfl, b4⟩
     have G2b := Lib.hid (G2a.out.step b4)
     have G1c := Lib.hid (G1b.out.step b4)
     have B4 := Lib.hid (below_le B3.out b4)
     clear b4
     go_wp2_with fail
     refine (C7.out _ _ _ _ G1c.out).mono ?_
     rintro e w5 ⟨A5, n5, c5, rfl, g5, b5⟩
     have G5 := Lib.hid g5
     have G25 := Lib.hid (G2b.out.step b5)
     have B5 := Lib.hid (below_le B4.out b5)
     clear g5 b5
     go_wp2_with fail
     refine (C8.out _ _ _ _ _ _ _ G5.out G25.out).mono ?_
     rintro e w6 ⟨A6, n6, c6, A7, n7, c7, rfl, g6, g7, b6⟩
     have G6 := Lib.hid g6
     have B6 := Lib.hid (below_le B5.out b6)
     have hn7 : (0 : Int) < (n7 : Int) := by
      have h1 := g7.len
      have h2 : (wds (M % D)) ≠ [] := fun e => HREM.out (by have h3 := wds_val (M % D); rw [e] at h3; exact h3.symm)
      have := List.length_pos_iff.2 h2
      omega
     clear g6 g7 b6
     go_wp2_with fail
     refine (C9.out _ _ _ _ G6.out).mono ?_
     rintro e w7 ⟨A8, n8, c8, rfl, g8, b7⟩
     have G8 := Lib.hid g8
     have B7 := Lib.hid (below_le B6.out b7)
     clear g8 b7
     have bl := Lib.hid (show Below w7.heap.size w7 (w7.alloc (.cells #[.int .u32 1] 42)) from (Below.refl _ _).alloc (Nat.le_refl _) _)
     have C10' := Lib.hid (C10.out _ _ _ _ _ _ _ (G8.out.step bl.out) (NV.lit w7 1 (by omega) (by omega)))
     go_wp2_with fail
     refine C10'.out.mono ?_
     rintro e w8 ⟨A9, n9, c9, rfl, g9, b8⟩
     have G9 := Lib.hid g9
     have B8 := Lib.hid (below_le (below_le B7.out bl.out) b8)
     clear g9 b8
     go_wp2_with fail
     refine (C11.out _ _ _ _ G9.out).mono ?_
     rintro e w9 ⟨rfl, b9⟩
     have B9 := Lib.hid (below_le B8.out b9)
     clear b9
     go_wp2
     go_ret
     exact ⟨rfl, B9.out⟩
set_option maxRecDepth 100000 in
set_option maxHeartbeats 2000000 in
theorem ydec_longn_neg10 (s : ByteArray) (K N : Nat) (X P : Int) (m F : Nat) (D M Q bd ba : Nat) (x1 up x2 Y : Int) (g : ByteArray) (y1 : Int) (E : Int) (w : World) (hs : s.size ≤ 281474976710656) (hK : K ≤ s.size) (hN : s.size - K = N)
  (Z1 : Hid (∀ k (h : k < s.size), k < K → (s[k]'h).toNat = 48)) (Z2 : Hid (∀ h : K < s.size, (s[K]'h).toNat ≠ 48))
  (hN0 : 0 < N) (p1 : wrap64 ((N : Int) + X) = P) (t0 : ((N : Int) == 0) = false) (t1 : decide (400 < P) = false) (t2 : decide (P < -400) = false) (t3 : decide (820 < (N : Int)) = true)
  (hg : s.extract K s.size = g) (hgN : g.size = N) (hN8 : 820 < N) (hrb : ((bl g).drop 810).any (· != 48) = false)
  (q0 : wrap64 (X + (N : Int)) = y1) (q1 : wrap64 (y1 - 810) = E)
  (C3 : Hid (∀ W, Cp 165 #[.string (g.extract 0 810), .int .i64 10] W (NOk m W)))
  (C4 : Hid (∀ W, Cp 115 #[.int .i64 (-E)] W (NRet D W)))
  (C5 : Hid (∀ W A1 n1 c1, NV W A1 n1 c1 D → Ct 163 #[.slice A1 n1 c1] (.int .i64 (bd : Nat)) W))
  (C6 : Hid (∀ W A1 n1 c1, NV W A1 n1 c1 m → Ct 163 #[.slice A1 n1 c1] (.int .i64 (ba : Nat)) W))
  (C7 : Hid (∀ W A1 n1 c1, NV W A1 n1 c1 m → Cp 102 #[.slice A1 n1 c1, .int .i64 up] W (NRet M W)))
  (C8 : Hid (∀ W A1 n1 c1 A2 n2 c2, NV W A1 n1 c1 M → NV W A2 n2 c2 D → Cp 49 #[.slice A1 n1 c1, .slice A2 n2 c2] W (HRet M D W)))
  (C9 : Hid (∀ W A1 n1 c1, NV W A1 n1 c1 (M / D) → Cp 102 #[.slice A1 n1 c1, .int .i64 1] W (NRet Q W)))
  (C11 : Hid (∀ W A1 n1 c1, NV W A1 n1 c1 Q → Ct 154 #[.slice A1 n1 c1, .int .i64 Y] (.float .f64 F) W))
  (hrem : M % D = 0)
  (u0 : decide (0 ≤ E) = false) (u1 : wrap64 (-E) = -E) (u2 : wrap64 ((bd : Int) - (ba : Int)) = x1) (u3 : wrap64 (x1 + 70) = up) (u4 : decide (up < 0) = false) (u5 : wrap64 (-up) = x2) (u6 : wrap64 (x2 - 1) = Y) :
  Ct 104 #[.string s, .int .i64 X] (.float .f64 F) w := by
 have h1 : (s.size : Int) ≤ 281474976710656 := by omega
 have HN := Lib.hid hN
 have HK := Lib.hid hK
 have HN0 := Lib.hid hN0
 have HREM := Lib.hid hrem
 have HG := Lib.hid hg
 have HGN := Lib.hid hgN
 have HN8 := Lib.hid hN8
 have HRB := Lib.hid hrb
 clear hs hK hN hN0 hrem hg hgN hN8 hrb
 go_enter Tryz.func104, Tryz.ntmps104
 go_wp2
 go_loopw [5] (fun i wr => ∃ k : Nat, i = .int .i64 k ∧ k ≤ K ∧ w = wr) (fun i _ => K - (intOf i).toNat)
 case atStart => exact ⟨0, rfl, Nat.zero_le _, rfl⟩
 case round =>
  obtain ⟨k, rfl, hk, rfl⟩ := hrel
  have hk2 := HK.out
  by_cases hlt : k < K
  ·have hks : k < s.size := by omega
   have e0 : ((s[k]'hks).toNat : Int) = 48 := by rw [Z1.out k hks hlt]; rfl
   have a2 : (k : Int) < (s.size : Int) := by omega
   have a1 : (0 : Int) ≤ (k : Int) := by omega
   clear hk2
   go_wp2
   exact ⟨⟨k + 1, by go_num, by omega, trivial⟩, by simp [intOf]; omega⟩
  ·obtain rfl : k = K := by omega
   have hz : k < s.size := by have := HN.out; have := HN0.out; omega
   obtain ⟨B, hB⟩ : ∃ B : Nat, (s[k]'hz).toNat = B := ⟨_, rfl⟩
   have hB48 := Z2.out hz
   rw [hB] at hB48
   have e0 : ((s[k]'hz).toNat : Int) = (B : Int) := by rw [hB]
   have e1 : ((B : Int) == 48) = false := by rw [beq_eq_false_iff_ne]; omega
   have a2 : (k : Int) < (s.size : Int) := by omega
   have a1 : (0 : Int) ≤ (k : Int) := by omega
   have a3 : (k : Int) ≤ (s.size : Int) := by omega
   have a4 : ((s.size - k : Nat) : Int) = (N : Int) := by rw [HN.out]
   clear hk2 hB hB48
   have hext : s.extract k s.size = g := HG.out
   have b4 : (g.size : Int) = (N : Int) := by rw [HGN.out]
   go_wp2
   clear a1 a2 a3 e0 e1 hext hz b4
   go_loopw [6, 7] (fun v i wr => ∃ j : Nat, i = .int .i64 (810 + (j : Int)) ∧ 810 + j ≤ N ∧ v = .bool ((((bl g).drop 810).take j).any (· != 48)) ∧ w = wr) (fun _ i _ => N - (intOf i).toNat)
   case atStart => exact ⟨0, rfl, by have := HN8.out; omega, rfl, rfl⟩
   case round =>
    obtain ⟨j, rfl, hj, rfl, rfl⟩ := hrel
    by_cases hjl : 810 + j < N
    ·have hgs : 810 + j < g.size := by rw [HGN.out]; exact hjl
     obtain ⟨D8, hD8⟩ : ∃ D8 : Nat, (g[810 + j]'hgs).toNat = D8 := ⟨_, rfl⟩
     have hstep : (((bl g).drop 810).take (j + 1)).any (· != 48) = ((((bl g).drop 810).take j).any (· != 48) || (D8 != 48)) := by
      rw [List.take_add_one, List.getElem?_drop, bl_get g (810 + j) hgs, hD8, List.any_append]
      simp
     have b0 : ((810 + (j : Int)) : Int) < (N : Int) := by omega
     have b1 : (0 : Int) ≤ 810 + (j : Int) := by omega
     have b2 : (810 + (j : Int)).toNat = 810 + j := by omega
     have b3 : ((g[810 + j]'hgs).toNat : Int) = (D8 : Int) := by rw [hD8]
     have b4 : (g.size : Int) = (N : Int) := by rw [HGN.out]
     have b5 : 810 + (j : Int) < (g.size : Int) := by omega
     obtain ⟨r, hr⟩ : ∃ r, (((bl g).drop 810).take j).any (· != 48) = r := ⟨_, rfl⟩
     rw [hr] at hstep ⊢
     have HST := Lib.hid hstep
     clear hstep hr hD8
     cases r
     ·cases h48 : (D8 != 48)
      ·have b6 : ((D8 : Int) != 48) = false := by rw [bne_eq_false_iff_eq]; have := bne_eq_false_iff_eq.1 h48; omega
       have HS2 := Lib.hid (show (((bl g).drop 810).take (j + 1)).any (· != 48) = false from by rw [HST.out, h48]; rfl)
       clear h48
       go_wp2
       exact ⟨⟨j + 1, by go_num, by omega, by rw [HS2.out], trivial⟩, by simp [intOf]; omega⟩
      ·have b6 : ((D8 : Int) != 48) = true := by rw [bne_iff_ne]; have := bne_iff_ne.1 h48; omega
       have HS2 := Lib.hid (show (((bl g).drop 810).take (j + 1)).any (· != 48) = true from by rw [HST.out, h48]; rfl)
       clear h48
       go_wp2
       exact ⟨⟨j + 1, by go_num, by omega, by rw [HS2.out], trivial⟩, by simp [intOf]; omega⟩
     ·have HS2 := Lib.hid (show (((bl g).drop 810).take (j + 1)).any (· != 48) = true from by rw [HST.out]; rfl)
      go_wp2
      exact ⟨⟨j + 1, by go_num, by omega, by rw [HS2.out], trivial⟩, by simp [intOf]; omega⟩
    ·have hz2 : (((bl g).drop 810).take j).any (· != 48) = false := by
      rw [List.take_of_length_le (by rw [List.length_drop, bl_size, HGN.out]; omega)]
      exact HRB.out
     rw [hz2]
     have b4 : (g.size : Int) = (N : Int) := by rw [HGN.out]
     have b0 : decide (810 + (j : Int) < (N : Int)) = false := decide_eq_false (by omega)
     have b5 : (810 : Int) ≤ (g.size : Int) := by have := HN8.out; omega
     clear hz2
     go_wp2_with fail
     refine (C3.out _).mono ?_
     rintro e w1 ⟨A1, n1, c1, rfl, g1, b1⟩
     have G1 := Lib.hid g1
     have B1 := Lib.hid b1
     clear g1 b1
     go_wp2_with fail
     refine (C4.out _).mono ?_
     rintro e w2 ⟨A2, n2, c2, rfl, g2, b2⟩
     have G2 := Lib.hid g2
     have G1a := Lib.hid (G1.out.step b2)
     have B2 := Lib.hid (below_le B1.out b2)
     clear g2 b2
     go_wp2_with fail
     refine (C5.out _ _ _ _ G2.out).mono ?_
     rintro e w3 ⟨rfl, b3⟩
     have G2a := Lib.hid (G2.out.step b3)
     have G1b := Lib.hid (G1a.out.step b3)
     have B3 := Lib.hid (below_le B2.out b3)
     clear b3
     go_wp2_with fail
     refine (C6.out _ _ _ _ G1b.out).mono ?_
     rintro e w4 ⟨rfl, b4⟩
     have G2b := Lib.hid (G2a.out.step b4)
     have G1c := Lib.hid (G1b.out.step b4)
     have B4 := Lib.hid (below_le B3.out b4)
     clear b4
     go_wp2_with fail
     refine (C7.out _ _ _ _ G1c.out).mono ?_
     rintro e w5 ⟨A5, n5, c5, rfl, g5, b5⟩
     have G5 := Lib.hid g5
     have G25 := Lib.hid (G2b.out.step b5)
     have B5 := Lib.hid (below_le B4.out b5)
     clear g5 b5
     go_wp2_with fail
     refine (C8.out _ _ _ _ _ _ _ G5.out G25.out).mono ?_
     rintro e w6 ⟨A6, n6, c6, A7, n7, c7, rfl, g6, g7, b6⟩
     have G6 := Lib.hid g6
     have B6 := Lib.hid (below_le B5.out b6)
     obtain rfl : n7 = 0 := by
      have h1 := g7.len
      rw [HREM.out] at h1
      exact h1.symm
     clear g6 g7 b6
     go_wp2_with fail
     refine (C9.out _ _ _ _ G6.out).mono ?_
     rintro e w7 ⟨A8, n8, c8, rfl, g8, b7⟩
     have G8 := Lib.hid g8
     have B7 := Lib.hid (below_le B6.out b7)
     clear g8 b7
     go_wp2_with fail
     refine (C11.out _ _ _ _ G8.out).mono ?_
     rintro e w9 ⟨rfl, b9⟩
     have B9 := Lib.hid (below_le B7.out b9)
     clear b9
     go_wp2
     go_ret
     exact ⟨rfl, B9.out⟩
set_option maxRecDepth 100000 in
set_option maxHeartbeats 2000000 in
theorem ydec_longn_neg11 (s : ByteArray) (K N : Nat) (X P : Int) (m F : Nat) (D M Q Q2 bd ba : Nat) (x1 up x2 Y : Int) (g : ByteArray) (y1 : Int) (E : Int) (w : World) (hs : s.size ≤ 281474976710656) (hK : K ≤ s.size) (hN : s.size - K = N)
  (Z1 : Hid (∀ k (h : k < s.size), k < K → (s[k]'h).toNat = 48)) (Z2 : Hid (∀ h : K < s.size, (s[K]'h).toNat ≠ 48))
  (hN0 : 0 < N) (p1 : wrap64 ((N : Int) + X) = P) (t0 : ((N : Int) == 0) = false) (t1 : decide (400 < P) = false) (t2 : decide (P < -400) = false) (t3 : decide (820 < (N : Int)) = true)
  (hg : s.extract K s.size = g) (hgN : g.size = N) (hN8 : 820 < N) (hrb : ((bl g).drop 810).any (· != 48) = false)
  (q0 : wrap64 (X + (N : Int)) = y1) (q1 : wrap64 (y1 - 810) = E)
  (C3 : Hid (∀ W, Cp 165 #[.string (g.extract 0 810), .int .i64 10] W (NOk m W)))
  (C4 : Hid (∀ W, Cp 115 #[.int .i64 (-E)] W (NRet D W)))
  (C5 : Hid (∀ W A1 n1 c1, NV W A1 n1 c1 D → Ct 163 #[.slice A1 n1 c1] (.int .i64 (bd : Nat)) W))
  (C6 : Hid (∀ W A1 n1 c1, NV W A1 n1 c1 m → Ct 163 #[.slice A1 n1 c1] (.int .i64 (ba : Nat)) W))
  (C7 : Hid (∀ W A1 n1 c1, NV W A1 n1 c1 m → Cp 102 #[.slice A1 n1 c1, .int .i64 up] W (NRet M W)))
  (C8 : Hid (∀ W A1 n1 c1 A2 n2 c2, NV W A1 n1 c1 M → NV W A2 n2 c2 D → Cp 49 #[.slice A1 n1 c1, .slice A2 n2 c2] W (HRet M D W)))
  (C9 : Hid (∀ W A1 n1 c1, NV W A1 n1 c1 (M / D) → Cp 102 #[.slice A1 n1 c1, .int .i64 1] W (NRet Q W)))
  (C10 : Hid (∀ W A1 n1 c1 A2 n2 c2, NV W A1 n1 c1 Q → NV W A2 n2 c2 1 → Cp 103 #[.slice A1 n1 c1, .slice A2 n2 c2] W (NRet Q2 W)))
  (C11 : Hid (∀ W A1 n1 c1, NV W A1 n1 c1 Q2 → Ct 154 #[.slice A1 n1 c1, .int .i64 Y] (.float .f64 F) W))
  (hrem : M % D ≠ 0)
  (u0 : decide (0 ≤ E) = false) (u1 : wrap64 (-E) = -E) (u2 : wrap64 ((bd : Int) - (ba : Int)) = x1) (u3 : wrap64 (x1 + 70) = up) (u4 : decide (up < 0) = false) (u5 : wrap64 (-up) = x2) (u6 : wrap64 (x2 - 1) = Y) :
  Ct 104 #[.string s, .int .i64 X] (.float .f64 F) w := by
 have h1 : (s.size : Int) ≤ 281474976710656 := by omega
 have HN := Lib.hid hN
 have HK := Lib.hid hK
 have HN0 := Lib.hid hN0
 have HREM := Lib.hid hrem
 have HG := Lib.hid hg
 have HGN := Lib.hid hgN
 have HN8 := Lib.hid hN8
 have HRB := Lib.hid hrb
 clear hs hK hN hN0 hrem hg hgN hN8 hrb
 go_enter Tryz.func104, Tryz.ntmps104
 go_wp2
 go_loopw [5] (fun i wr => ∃ k : Nat, i = .int .i64 k ∧ k ≤ K ∧ w = wr) (fun i _ => K - (intOf i).toNat)
 case atStart => exact ⟨0, rfl, Nat.zero_le _, rfl⟩
 case round =>
  obtain ⟨k, rfl, hk, rfl⟩ := hrel
  have hk2 := HK.out
  by_cases hlt : k < K
  ·have hks : k < s.size := by omega
   have e0 : ((s[k]'hks).toNat : Int) = 48 := by rw [Z1.out k hks hlt]; rfl
   have a2 : (k : Int) < (s.size : Int) := by omega
   have a1 : (0 : Int) ≤ (k : Int) := by omega
   clear hk2
   go_wp2
   exact ⟨⟨k + 1, by go_num, by omega, trivial⟩, by simp [intOf]; omega⟩
  ·obtain rfl : k = K := by omega
   have hz : k < s.size := by have := HN.out; have := HN0.out; omega
   obtain ⟨B, hB⟩ : ∃ B : Nat, (s[k]'hz).toNat = B := ⟨_, rfl⟩
   have hB48 := Z2.out hz
   rw [hB] at hB48
   have e0 : ((s[k]'hz).toNat : Int) = (B : Int) := by rw [hB]
   have e1 : ((B : Int) == 48) = false := by rw [beq_eq_false_iff_ne]; omega
   have a2 : (k : Int) < (s.size : Int) := by omega
   have a1 : (0 : Int) ≤ (k : Int) := by omega
   have a3 : (k : Int) ≤ (s.size : Int) := by omega
   have a4 : ((s.size - k : Nat) : Int) = (N : Int) := by rw [HN.out]
   clear hk2 hB hB48
   have hext : s.extract k s.size = g := HG.out
   have b4 : (g.size : Int) = (N : Int) := by rw [HGN.out]
   go_wp2
   clear a1 a2 a3 e0 e1 hext hz b4
   go_loopw [6, 7] (fun v i wr => ∃ j : Nat, i = .int .i64 (810 + (j : Int)) ∧ 810 + j ≤ N ∧ v = .bool ((((bl g).drop 810).take j).any (· != 48)) ∧ w = wr) (fun _ i _ => N - (intOf i).toNat)
   case atStart => exact ⟨0, rfl, by have := HN8.out; omega, rfl, rfl⟩
   case round =>
    obtain ⟨j, rfl, hj, rfl, rfl⟩ := hrel
    by_cases hjl : 810 + j < N
    ·have hgs : 810 + j < g.size := by rw [HGN.out]; exact hjl
     obtain ⟨D8, hD8⟩ : ∃ D8 : Nat, (g[810 + j]'hgs).toNat = D8 := ⟨_, rfl⟩
     have hstep : (((bl g).drop 810).take (j + 1)).any (· != 48) = ((((bl g).drop 810).take j).any (· != 48) || (D8 != 48)) := by
      rw [List.take_add_one, List.getElem?_drop, bl_get g (810 + j) hgs, hD8, List.any_append]
      simp
     have b0 : ((810 + (j : Int)) : Int) < (N : Int) := by omega
     have b1 : (0 : Int) ≤ 810 + (j : Int) := by omega
     have b2 : (810 + (j : Int)).toNat = 810 + j := by omega
     have b3 : ((g[810 + j]'hgs).toNat : Int) = (D8 : Int) := by rw [hD8]
     have b4 : (g.size : Int) = (N : Int) := by rw [HGN.out]
     have b5 : 810 + (j : Int) < (g.size : Int) := by omega
     obtain ⟨r, hr⟩ : ∃ r, (((bl g).drop 810).take j).any (· != 48) = r := ⟨_, rfl⟩
     rw [hr] at hstep ⊢
     have HST := Lib.hid hstep
     clear hstep hr hD8
     cases r
     ·cases h48 : (D8 != 48)
      ·have b6 : ((D8 : Int) != 48) = false := by rw [bne_eq_false_iff_eq]; have := bne_eq_false_iff_eq.1 h48; omega
       have HS2 := Lib.hid (show (((bl g).drop 810).take (j + 1)).any (· != 48) = false from by rw [HST.out, h48]; rfl)
       clear h48
       go_wp2
       exact ⟨⟨j + 1, by go_num, by omega, by rw [HS2.out], trivial⟩, by simp [intOf]; omega⟩
      ·have b6 : ((D8 : Int) != 48) = true := by rw [bne_iff_ne]; have := bne_iff_ne.1 h48; omega
       have HS2 := Lib.hid (show (((bl g).drop 810).take (j + 1)).any (· != 48) = true from by rw [HST.out, h48]; rfl)
       clear h48
       go_wp2
       exact ⟨⟨j + 1, by go_num, by omega, by rw [HS2.out], trivial⟩, by simp [intOf]; omega⟩
     ·have HS2 := Lib.hid (show (((bl g).drop 810).take (j + 1)).any (· != 48) = true from by rw [HST.out]; rfl)
      go_wp2
      exact ⟨⟨j + 1, by go_num, by omega, by rw [HS2.out], trivial⟩, by simp [intOf]; omega⟩
    ·have hz2 : (((bl g).drop 810).take j).any (· != 48) = false := by
      rw [List.take_of_length_le (by rw [List.length_drop, bl_size, HGN.out]; omega)]
      exact HRB.out
     rw [hz2]
     have b4 : (g.size : Int) = (N : Int) := by rw [HGN.out]
     have b0 : decide (810 + (j : Int) < (N : Int)) = false := decide_eq_false (by omega)
     have b5 : (810 : Int) ≤ (g.size : Int) := by have := HN8.out; omega
     clear hz2
     go_wp2_with fail
     refine (C3.out _).mono ?_
     rintro e w1 ⟨A1, n1, c1, rfl, g1, b1⟩
     have G1 := Lib.hid g1
     have B1 := Lib.hid b1
     clear g1 b1
     go_wp2_with fail
     refine (C4.out _).mono ?_
     rintro e w2 ⟨A2, n2, c2, rfl, g2, b2⟩
     have G2 := Lib.hid g2
     have G1a := Lib.hid (G1.out.step b2)
     have B2 := Lib.hid (below_le B1.out b2)
     clear g2 b2
     go_wp2_with fail
     refine (C5.out _ _ _ _ G2.out).mono ?_
     rintro e w3 ⟨rfl, b3⟩
     have G2a := Lib.hid (G2.out.step b3)
     have G1b := Lib.hid (G1a.out.step b3)
     have B3 := Lib.hid (below_le B2.out b3)
     clear b3
     go_wp2_with fail
     refine (C6.out _ _ _ _ G1b.out).mono ?_
     rintro e w4 ⟨rfl, b4⟩
     have G2b := Lib.hid (G2a.out.step b4)
     have G1c := Lib.hid (G1b.out.step b4)
     have B4 := Lib.hid (below_le B3.out b4)
     clear b4
     go_wp2_with fail
     refine (C7.out _ _ _ _ G1c.out).mono ?_
     rintro e w5 ⟨A5, n5, c5, rfl, g5, b5⟩
     have G5 := Lib.hid g5
     have G25 := Lib.hid (G2b.out.step b5)
     have B5 := Lib.hid (below_le B4.out b5)
     clear g5 b5
     go_wp2_with fail
     refine (C8.out _ _ _ _ _ _ _ G5.out G25.out).mono ?_
     rintro e w6 ⟨A6, n6, c6, A7, n7, c7, rfl, g6, g7, b6⟩
     have G6 := Lib.hid g6
     have B6 := Lib.hid (below_le B5.out b6)
     have hn7 : (0 : Int) < (n7 : Int) := by
      have h1 := g7.len
      have h2 : (wds (M % D)) ≠ [] := fun e => HREM.out (by have h3 := wds_val (M % D); rw [e] at h3; exact h3.symm)
      have := List.length_pos_iff.2 h2
      omega
     clear g6 g7 b6
     go_wp2_with fail
     refine (C9.out _ _ _ _ G6.out).mono ?_
     rintro e w7 ⟨A8, n8, c8, rfl, g8, b7⟩
     have G8 := Lib.hid g8
     have B7 := Lib.hid (below_le B6.out b7)
     clear g8 b7
     have bl := Lib.hid (show Below w7.heap.size w7 (w7.alloc (.cells #[.int .u32 1] 42)) from (Below.refl _ _).alloc (Nat.le_refl _) _)
     have C10' := Lib.hid (C10.out _ _ _ _ _ _ _ (G8.out.step bl.out) (NV.lit w7 1 (by omega) (by omega)))
     go_wp2_with fail
     refine C10'.out.mono ?_
     rintro e w8 ⟨A9, n9, c9, rfl, g9, b8⟩
     have G9 := Lib.hid g9
     have B8 := Lib.hid (below_le (below_le B7.out bl.out) b8)
     clear g9 b8
     go_wp2_with fail
     refine (C11.out _ _ _ _ G9.out).mono ?_
     rintro e w9 ⟨rfl, b9⟩
     have B9 := Lib.hid (below_le B8.out b9)
     clear b9
     go_wp2
     go_ret
     exact ⟨rfl, B9.out⟩

end Go.Proofs.YtfcpkdafkmohkaaGreatDoor
namespace Go.Proofs.YtfcpkdafkmohkaaGreatDoor
open Go.RowKit
theorem yneg_pack (m k : Nat) (h0 : 0 < m) (hb : bln m ≤ 3300) (hk : k ≤ 1300) : ∃ (D M bd ba : Nat) (U : Int), U = max 0 ((bd : Int) - ba + 70) ∧ bd ≤ 6000 ∧ ba ≤ 6000 ∧
  Hid (∀ W, Cp 115 #[.int .i64 (k : Nat)] W (NRet D W)) ∧
  Hid (∀ W A1 n1 c1, NV W A1 n1 c1 D → Ct 163 #[.slice A1 n1 c1] (.int .i64 (bd : Nat)) W) ∧
  Hid (∀ W A1 n1 c1, NV W A1 n1 c1 m → Ct 163 #[.slice A1 n1 c1] (.int .i64 (ba : Nat)) W) ∧
  Hid (∀ W A1 n1 c1, NV W A1 n1 c1 m → Cp 102 #[.slice A1 n1 c1, .int .i64 U] W (NRet M W)) ∧
  Hid (∀ W A1 n1 c1 A2 n2 c2, NV W A1 n1 c1 M → NV W A2 n2 c2 D → Cp 49 #[.slice A1 n1 c1, .slice A2 n2 c2] W (HRet M D W)) ∧
  Hid (∀ W A1 n1 c1, NV W A1 n1 c1 (M / D) → Cp 102 #[.slice A1 n1 c1, .int .i64 1] W (NRet (M / D * 2) W)) ∧
  Hid (∀ W A1 n1 c1 A2 n2 c2, NV W A1 n1 c1 (M / D * 2) → NV W A2 n2 c2 1 → Cp 103 #[.slice A1 n1 c1, .slice A2 n2 c2] W (NRet (M / D * 2 + 1) W)) ∧
  (M % D = 0 → Hid (∀ W A1 n1 c1, NV W A1 n1 c1 (M / D * 2) → Ct 154 #[.slice A1 n1 c1, .int .i64 (-U - 1)] (.float .f64 (decR m (-(k : Int)))) W)) ∧
  (M % D ≠ 0 → Hid (∀ W A1 n1 c1, NV W A1 n1 c1 (M / D * 2 + 1) → Ct 154 #[.slice A1 n1 c1, .int .i64 (-U - 1)] (.float .f64 (decR m (-(k : Int)))) W)) := by
 obtain ⟨u1, u2, u3⟩ := bln_bounds h0
 obtain ⟨v1, v2, v3⟩ := bln_bounds (ten_pos k)
 have ft := bln_ten k
 obtain ⟨D, hD⟩ : ∃ D, 10 ^ k = D := ⟨_, rfl⟩
 rw [hD] at v1 v2 v3 ft
 obtain ⟨bd, hbd⟩ : ∃ bd, bln D = bd := ⟨_, rfl⟩
 obtain ⟨ba, hba⟩ : ∃ ba, bln m = ba := ⟨_, rfl⟩
 have hD0 : 0 < D := by rw [← hD]; exact ten_pos k
 obtain ⟨up, hup⟩ : ∃ up : Nat, (up : Int) = max 0 ((bd : Int) - ba + 70) := ⟨(max 0 ((bd : Int) - ba + 70)).toNat, by omega⟩
 have g1 := bln_mul m (2 ^ up)
 have g2 := bln_pow2 up
 obtain ⟨M, hM⟩ : ∃ M, m * 2 ^ up = M := ⟨_, rfl⟩
 have hM0 : 0 < M := by rw [← hM]; exact Nat.mul_pos h0 (two_pos _)
 rw [hM] at g1
 rw [hba] at hb u1 u2 u3 g1
 rw [hbd] at v1 v2 v3 ft
 have hup2 : up ≤ 5400 := by omega
 obtain ⟨p, rfl⟩ : ∃ p, ba = p + 1 := ⟨ba - 1, by omega⟩
 obtain ⟨r, rfl⟩ : ∃ r, bd = r + 1 := ⟨bd - 1, by omega⟩
 rw [Nat.add_sub_cancel] at u1 v1
 have hbig := (quot_bits (x := up) (y := 0) u1 u2 v1 v2 60).2 (by omega)
 rw [Nat.pow_zero, Nat.mul_one, hM] at hbig
 have hqM : M / D ≤ M := Nat.div_le_self _ _
 have l1 := bln_mono hqM
 have l2 := bln_mono (show M / D * 2 ≤ M * 4 by omega)
 have l3 := bln_mono (show M / D * 2 + 1 ≤ M * 4 by omega)
 have l4 := bln_mul M 4
 rw [show bln 4 = 3 by decide] at l4
 obtain ⟨q, hq⟩ : ∃ q, M / D = q := ⟨_, rfl⟩
 obtain ⟨t, ht⟩ : ∃ t, M % D = t := ⟨_, rfl⟩
 have hNd : M = q * D + t := by rw [← hq, ← ht, Nat.mul_comm]; exact (Nat.div_add_mod M D).symm
 have htd : t < D := by rw [← ht]; exact Nat.mod_lt _ hD0
 obtain ⟨a, ha⟩ : ∃ a, 1074 - up = a := ⟨_, rfl⟩
 obtain ⟨b, hb2⟩ : ∃ b, up - 1074 = b := ⟨_, rfl⟩
 have key := fun s hs => decR_refq (m := m) (N := M) (q := q) (t := t) (s := s) (k := k) (up := up) (a := a) (b := b) hM.symm (by rw [hD]; exact hNd) (by rw [hD]; exact htd) hs (by rw [← hq]; exact hbig) ha.symm hb2.symm
 rw [hq] at l1 l2 l3
 refine ⟨D, M, r + 1, p + 1, (up : Int), hup, by omega, by omega, Lib.hid (fun W => ?_), Lib.hid (fun W A1 n1 c1 h => ?_), Lib.hid (fun W A1 n1 c1 h => ?_), Lib.hid (fun W A1 n1 c1 h => ?_), Lib.hid (fun W A1 n1 c1 A2 n2 c2 h g => rnhalved h g (by omega) (by omega) hD0), Lib.hid (fun W A1 n1 c1 h => ?_), Lib.hid (fun W A1 n1 c1 A2 n2 c2 h g => rnplus h g (by rw [hq]; omega) (by decide)), ?_, ?_⟩
 ·rw [← hD]; exact ypow_any k W (by omega)
 ·rw [← hbd]; exact rnbits h (by omega)
 ·rw [← hba]; exact rnbits h (by omega)
 ·rw [← hM]; exact rnup h up (by omega) (by omega)
 ·exact rnup h 1 (by rw [hq]; omega) (by omega)
 ·rw [hq, ht]
  intro h1
  have k1 := key 0 (by rw [if_pos h1])
  rw [Nat.add_zero, Nat.mul_comm 2 q] at k1
  exact Lib.hid (fun W A1 n1 c1 h => by rw [← k1]; exact rnnear h (by omega) a (b + 1) (-(up : Int) - 1) (by omega) (by omega) (by omega))
 ·rw [hq, ht]
  intro h1
  have k1 := key 1 (by rw [if_neg h1])
  rw [Nat.mul_comm 2 q] at k1
  exact Lib.hid (fun W A1 n1 c1 h => by rw [← k1]; exact rnnear h (by omega) a (b + 1) (-(up : Int) - 1) (by omega) (by omega) (by omega))
theorem ypos_pack (m k : Nat) (hb : bln m ≤ 3300) (hk : k ≤ 1300) : ∃ (D M : Nat),
  Hid (∀ W, Cp 115 #[.int .i64 (k : Nat)] W (NRet D W)) ∧
  Hid (∀ W A1 n1 c1 A2 n2 c2, NV W A1 n1 c1 m → NV W A2 n2 c2 D → Cp 51 #[.slice A1 n1 c1, .slice A2 n2 c2] W (NRet M W)) ∧
  Hid (∀ W A1 n1 c1, NV W A1 n1 c1 M → Ct 154 #[.slice A1 n1 c1, .int .i64 0] (.float .f64 (decR m (k : Int))) W) := by
 have ft := bln_ten k
 have g1 := bln_mul m (10 ^ k)
 refine ⟨10 ^ k, m * 10 ^ k, Lib.hid (fun W => ypow_any k W (by omega)), Lib.hid (fun W A1 n1 c1 A2 n2 c2 h g => rntimes h g (by omega) (by omega)), Lib.hid (fun W A1 n1 c1 h => ?_)⟩
 obtain ⟨K, hK, hd⟩ := decR_K
 have := rnnear h (by omega) K 0 0 (by omega) (by omega) (by omega)
 rw [hd, show ((k : Int)).toNat = k by omega, show (-(k : Int)).toNat = 0 by omega]
 exact this
theorem ydec_short (s : ByteArray) (K N : Nat) (X P : Int) (m : Nat) (w : World) (hs : s.size ≤ 281474976710656) (hK : K ≤ s.size) (hN : s.size - K = N)
  (Z1 : Hid (∀ k (h : k < s.size), k < K → (s[k]'h).toNat = 48)) (Z2 : Hid (∀ h : K < s.size, (s[K]'h).toNat ≠ 48))
  (hN0 : 0 < N) (p1 : wrap64 ((N : Int) + X) = P) (t0 : ((N : Int) == 0) = false) (t1 : decide (400 < P) = false) (t2 : decide (P < -400) = false) (t3 : decide (820 < (N : Int)) = false)
  (C3 : Hid (∀ W, Cp 165 #[.string (s.extract K s.size), .int .i64 10] W (NOk m W))) (h0 : 0 < m) (hb : bln m ≤ 3300) (hE1 : -1300 ≤ X) (hE2 : X ≤ 1300) :
  Ct 104 #[.string s, .int .i64 X] (.float .f64 (decR m X)) w := by
 by_cases hp : 0 ≤ X
 ·obtain ⟨k, rfl⟩ : ∃ k : Nat, X = k := ⟨X.toNat, by omega⟩
  obtain ⟨D, M, C4, C5, C6⟩ := ypos_pack m k hb (by omega)
  exact ydec_short_pos (w := w) (hs := hs) (hK := hK) (hN := hN) (Z1 := Z1) (Z2 := Z2) (C3 := C3) (C4 := C4) (C5 := C5) (C6 := C6) (u0 := decide_eq_true hp) (hN0 := hN0) (p1 := p1) (t0 := t0) (t1 := t1) (t2 := t2) (t3 := t3)
 ·obtain ⟨k, rfl⟩ : ∃ k : Nat, X = -(k : Int) := ⟨(-X).toNat, by omega⟩
  obtain ⟨D, M, bd, ba, U, hU, e1, e2, C4, C5, C6, C7, C8, C9, C10, C11, C12⟩ := yneg_pack m k h0 hb (by omega)
  rw [show (k : Int) = -(-(k : Int)) by omega] at C4
  have u0 : decide (0 ≤ -(k : Int)) = false := decide_eq_false hp
  have u1 : wrap64 (- -(k : Int)) = - -(k : Int) := by unfold wrap64; omega
  have u2 : wrap64 ((bd : Int) - (ba : Int)) = (bd : Int) - ba := by unfold wrap64; omega
  have u3 : wrap64 ((bd : Int) - ba + 70) = (bd : Int) - ba + 70 := by unfold wrap64; omega
  by_cases hU0 : (bd : Int) - ba + 70 < 0
  ·obtain rfl : U = 0 := by omega
   have u4 : decide ((bd : Int) - ba + 70 < 0) = true := decide_eq_true hU0
   by_cases hr : M % D = 0
   ·exact ydec_short_neg00 (w := w) (hs := hs) (hK := hK) (hN := hN) (Z1 := Z1) (Z2 := Z2) (C3 := C3) (C4 := C4) (C5 := C5) (C6 := C6) (C7 := C7) (C8 := C8) (C9 := C9) (C11 := C11 hr) (hrem := hr) (u0 := u0) (u1 := u1) (u2 := u2) (u3 := u3) (u4 := u4) (u6 := by omega) (hN0 := hN0) (p1 := p1) (t0 := t0) (t1 := t1) (t2 := t2) (t3 := t3)
   ·exact ydec_short_neg01 (w := w) (hs := hs) (hK := hK) (hN := hN) (Z1 := Z1) (Z2 := Z2) (C3 := C3) (C4 := C4) (C5 := C5) (C6 := C6) (C7 := C7) (C8 := C8) (C9 := C9) (C10 := C10) (C11 := C12 hr) (hrem := hr) (u0 := u0) (u1 := u1) (u2 := u2) (u3 := u3) (u4 := u4) (u6 := by omega) (hN0 := hN0) (p1 := p1) (t0 := t0) (t1 := t1) (t2 := t2) (t3 := t3)
  ·obtain rfl : U = (bd : Int) - ba + 70 := by omega
   have u4 : decide ((bd : Int) - ba + 70 < 0) = false := decide_eq_false hU0
   have u5 : wrap64 (-((bd : Int) - ba + 70)) = -((bd : Int) - ba + 70) := by unfold wrap64; omega
   have u6 : wrap64 (-((bd : Int) - ba + 70) - 1) = -((bd : Int) - ba + 70) - 1 := by unfold wrap64; omega
   by_cases hr : M % D = 0
   ·exact ydec_short_neg10 (w := w) (hs := hs) (hK := hK) (hN := hN) (Z1 := Z1) (Z2 := Z2) (C3 := C3) (C4 := C4) (C5 := C5) (C6 := C6) (C7 := C7) (C8 := C8) (C9 := C9) (C11 := C11 hr) (hrem := hr) (u0 := u0) (u1 := u1) (u2 := u2) (u3 := u3) (u4 := u4) (u5 := u5) (u6 := u6) (hN0 := hN0) (p1 := p1) (t0 := t0) (t1 := t1) (t2 := t2) (t3 := t3)
   ·exact ydec_short_neg11 (w := w) (hs := hs) (hK := hK) (hN := hN) (Z1 := Z1) (Z2 := Z2) (C3 := C3) (C4 := C4) (C5 := C5) (C6 := C6) (C7 := C7) (C8 := C8) (C9 := C9) (C10 := C10) (C11 := C12 hr) (hrem := hr) (u0 := u0) (u1 := u1) (u2 := u2) (u3 := u3) (u4 := u4) (u5 := u5) (u6 := u6) (hN0 := hN0) (p1 := p1) (t0 := t0) (t1 := t1) (t2 := t2) (t3 := t3)
theorem ydec_longn (s : ByteArray) (K N : Nat) (X P : Int) (m : Nat) (g : ByteArray) (y1 : Int) (E : Int) (w : World) (hs : s.size ≤ 281474976710656) (hK : K ≤ s.size) (hN : s.size - K = N)
  (Z1 : Hid (∀ k (h : k < s.size), k < K → (s[k]'h).toNat = 48)) (Z2 : Hid (∀ h : K < s.size, (s[K]'h).toNat ≠ 48))
  (hN0 : 0 < N) (p1 : wrap64 ((N : Int) + X) = P) (t0 : ((N : Int) == 0) = false) (t1 : decide (400 < P) = false) (t2 : decide (P < -400) = false) (t3 : decide (820 < (N : Int)) = true)
  (hg : s.extract K s.size = g) (hgN : g.size = N) (hN8 : 820 < N) (hrb : ((bl g).drop 810).any (· != 48) = false)
  (q0 : wrap64 (X + (N : Int)) = y1) (q1 : wrap64 (y1 - 810) = E)
  (C3 : Hid (∀ W, Cp 165 #[.string (g.extract 0 810), .int .i64 10] W (NOk m W))) (h0 : 0 < m) (hb : bln m ≤ 3300) (hE1 : -1300 ≤ E) (hE2 : E ≤ 1300) :
  Ct 104 #[.string s, .int .i64 X] (.float .f64 (decR m E)) w := by
 by_cases hp : 0 ≤ E
 ·obtain ⟨k, rfl⟩ : ∃ k : Nat, E = k := ⟨E.toNat, by omega⟩
  obtain ⟨D, M, C4, C5, C6⟩ := ypos_pack m k hb (by omega)
  exact ydec_longn_pos (w := w) (hs := hs) (hK := hK) (hN := hN) (Z1 := Z1) (Z2 := Z2) (C3 := C3) (C4 := C4) (C5 := C5) (C6 := C6) (u0 := decide_eq_true hp) (hN0 := hN0) (p1 := p1) (t0 := t0) (t1 := t1) (t2 := t2) (t3 := t3) (hg := hg) (hgN := hgN) (hN8 := hN8) (hrb := hrb) (q0 := q0) (q1 := q1)
 ·obtain ⟨k, rfl⟩ : ∃ k : Nat, E = -(k : Int) := ⟨(-E).toNat, by omega⟩
  obtain ⟨D, M, bd, ba, U, hU, e1, e2, C4, C5, C6, C7, C8, C9, C10, C11, C12⟩ := yneg_pack m k h0 hb (by omega)
  rw [show (k : Int) = -(-(k : Int)) by omega] at C4
  have u0 : decide (0 ≤ -(k : Int)) = false := decide_eq_false hp
  have u1 : wrap64 (- -(k : Int)) = - -(k : Int) := by unfold wrap64; omega
  have u2 : wrap64 ((bd : Int) - (ba : Int)) = (bd : Int) - ba := by unfold wrap64; omega
  have u3 : wrap64 ((bd : Int) - ba + 70) = (bd : Int) - ba + 70 := by unfold wrap64; omega
  by_cases hU0 : (bd : Int) - ba + 70 < 0
  ·obtain rfl : U = 0 := by omega
   have u4 : decide ((bd : Int) - ba + 70 < 0) = true := decide_eq_true hU0
   by_cases hr : M % D = 0
   ·exact ydec_longn_neg00 (w := w) (hs := hs) (hK := hK) (hN := hN) (Z1 := Z1) (Z2 := Z2) (C3 := C3) (C4 := C4) (C5 := C5) (C6 := C6) (C7 := C7) (C8 := C8) (C9 := C9) (C11 := C11 hr) (hrem := hr) (u0 := u0) (u1 := u1) (u2 := u2) (u3 := u3) (u4 := u4) (u6 := by omega) (hN0 := hN0) (p1 := p1) (t0 := t0) (t1 := t1) (t2 := t2) (t3 := t3) (hg := hg) (hgN := hgN) (hN8 := hN8) (hrb := hrb) (q0 := q0) (q1 := q1)
   ·exact ydec_longn_neg01 (w := w) (hs := hs) (hK := hK) (hN := hN) (Z1 := Z1) (Z2 := Z2) (C3 := C3) (C4 := C4) (C5 := C5) (C6 := C6) (C7 := C7) (C8 := C8) (C9 := C9) (C10 := C10) (C11 := C12 hr) (hrem := hr) (u0 := u0) (u1 := u1) (u2 := u2) (u3 := u3) (u4 := u4) (u6 := by omega) (hN0 := hN0) (p1 := p1) (t0 := t0) (t1 := t1) (t2 := t2) (t3 := t3) (hg := hg) (hgN := hgN) (hN8 := hN8) (hrb := hrb) (q0 := q0) (q1 := q1)
  ·obtain rfl : U = (bd : Int) - ba + 70 := by omega
   have u4 : decide ((bd : Int) - ba + 70 < 0) = false := decide_eq_false hU0
   have u5 : wrap64 (-((bd : Int) - ba + 70)) = -((bd : Int) - ba + 70) := by unfold wrap64; omega
   have u6 : wrap64 (-((bd : Int) - ba + 70) - 1) = -((bd : Int) - ba + 70) - 1 := by unfold wrap64; omega
   by_cases hr : M % D = 0
   ·exact ydec_longn_neg10 (w := w) (hs := hs) (hK := hK) (hN := hN) (Z1 := Z1) (Z2 := Z2) (C3 := C3) (C4 := C4) (C5 := C5) (C6 := C6) (C7 := C7) (C8 := C8) (C9 := C9) (C11 := C11 hr) (hrem := hr) (u0 := u0) (u1 := u1) (u2 := u2) (u3 := u3) (u4 := u4) (u5 := u5) (u6 := u6) (hN0 := hN0) (p1 := p1) (t0 := t0) (t1 := t1) (t2 := t2) (t3 := t3) (hg := hg) (hgN := hgN) (hN8 := hN8) (hrb := hrb) (q0 := q0) (q1 := q1)
   ·exact ydec_longn_neg11 (w := w) (hs := hs) (hK := hK) (hN := hN) (Z1 := Z1) (Z2 := Z2) (C3 := C3) (C4 := C4) (C5 := C5) (C6 := C6) (C7 := C7) (C8 := C8) (C9 := C9) (C10 := C10) (C11 := C12 hr) (hrem := hr) (u0 := u0) (u1 := u1) (u2 := u2) (u3 := u3) (u4 := u4) (u5 := u5) (u6 := u6) (hN0 := hN0) (p1 := p1) (t0 := t0) (t1 := t1) (t2 := t2) (t3 := t3) (hg := hg) (hgN := hgN) (hN8 := hN8) (hrb := hrb) (q0 := q0) (q1 := q1)
theorem ydec_longr (s : ByteArray) (K N : Nat) (X P : Int) (m : Nat) (g : ByteArray) (y1 y2 : Int) (E : Int) (w : World) (hs : s.size ≤ 281474976710656) (hK : K ≤ s.size) (hN : s.size - K = N)
  (Z1 : Hid (∀ k (h : k < s.size), k < K → (s[k]'h).toNat = 48)) (Z2 : Hid (∀ h : K < s.size, (s[K]'h).toNat ≠ 48))
  (hN0 : 0 < N) (p1 : wrap64 ((N : Int) + X) = P) (t0 : ((N : Int) == 0) = false) (t1 : decide (400 < P) = false) (t2 : decide (P < -400) = false) (t3 : decide (820 < (N : Int)) = true)
  (hg : s.extract K s.size = g) (hgN : g.size = N) (hN8 : 820 < N) (hrb : ((bl g).drop 810).any (· != 48) = true)
  (q0 : wrap64 (X + (N : Int)) = y1) (q1 : wrap64 (y1 - 810) = y2) (q2 : wrap64 (y2 - 1) = E) (q3 : ¬ 9223372036854775807 < (g.extract 0 810).size + 1)
  (C3 : Hid (∀ W, Cp 165 #[.string (g.extract 0 810 ++ ⟨#[49]⟩), .int .i64 10] W (NOk m W))) (h0 : 0 < m) (hb : bln m ≤ 3300) (hE1 : -1300 ≤ E) (hE2 : E ≤ 1300) :
  Ct 104 #[.string s, .int .i64 X] (.float .f64 (decR m E)) w := by
 by_cases hp : 0 ≤ E
 ·obtain ⟨k, rfl⟩ : ∃ k : Nat, E = k := ⟨E.toNat, by omega⟩
  obtain ⟨D, M, C4, C5, C6⟩ := ypos_pack m k hb (by omega)
  exact ydec_longr_pos (w := w) (hs := hs) (hK := hK) (hN := hN) (Z1 := Z1) (Z2 := Z2) (C3 := C3) (C4 := C4) (C5 := C5) (C6 := C6) (u0 := decide_eq_true hp) (hN0 := hN0) (p1 := p1) (t0 := t0) (t1 := t1) (t2 := t2) (t3 := t3) (hg := hg) (hgN := hgN) (hN8 := hN8) (hrb := hrb) (q0 := q0) (q1 := q1) (q2 := q2) (_q3 := q3)
 ·obtain ⟨k, rfl⟩ : ∃ k : Nat, E = -(k : Int) := ⟨(-E).toNat, by omega⟩
  obtain ⟨D, M, bd, ba, U, hU, e1, e2, C4, C5, C6, C7, C8, C9, C10, C11, C12⟩ := yneg_pack m k h0 hb (by omega)
  rw [show (k : Int) = -(-(k : Int)) by omega] at C4
  have u0 : decide (0 ≤ -(k : Int)) = false := decide_eq_false hp
  have u1 : wrap64 (- -(k : Int)) = - -(k : Int) := by unfold wrap64; omega
  have u2 : wrap64 ((bd : Int) - (ba : Int)) = (bd : Int) - ba := by unfold wrap64; omega
  have u3 : wrap64 ((bd : Int) - ba + 70) = (bd : Int) - ba + 70 := by unfold wrap64; omega
  by_cases hU0 : (bd : Int) - ba + 70 < 0
  ·obtain rfl : U = 0 := by omega
   have u4 : decide ((bd : Int) - ba + 70 < 0) = true := decide_eq_true hU0
   by_cases hr : M % D = 0
   ·exact ydec_longr_neg00 (w := w) (hs := hs) (hK := hK) (hN := hN) (Z1 := Z1) (Z2 := Z2) (C3 := C3) (C4 := C4) (C5 := C5) (C6 := C6) (C7 := C7) (C8 := C8) (C9 := C9) (C11 := C11 hr) (hrem := hr) (u0 := u0) (u1 := u1) (u2 := u2) (u3 := u3) (u4 := u4) (u6 := by omega) (hN0 := hN0) (p1 := p1) (t0 := t0) (t1 := t1) (t2 := t2) (t3 := t3) (hg := hg) (hgN := hgN) (hN8 := hN8) (hrb := hrb) (q0 := q0) (q1 := q1) (q2 := q2) (_q3 := q3)
   ·exact ydec_longr_neg01 (w := w) (hs := hs) (hK := hK) (hN := hN) (Z1 := Z1) (Z2 := Z2) (C3 := C3) (C4 := C4) (C5 := C5) (C6 := C6) (C7 := C7) (C8 := C8) (C9 := C9) (C10 := C10) (C11 := C12 hr) (hrem := hr) (u0 := u0) (u1 := u1) (u2 := u2) (u3 := u3) (u4 := u4) (u6 := by omega) (hN0 := hN0) (p1 := p1) (t0 := t0) (t1 := t1) (t2 := t2) (t3 := t3) (hg := hg) (hgN := hgN) (hN8 := hN8) (hrb := hrb) (q0 := q0) (q1 := q1) (q2 := q2) (_q3 := q3)
  ·obtain rfl : U = (bd : Int) - ba + 70 := by omega
   have u4 : decide ((bd : Int) - ba + 70 < 0) = false := decide_eq_false hU0
   have u5 : wrap64 (-((bd : Int) - ba + 70)) = -((bd : Int) - ba + 70) := by unfold wrap64; omega
   have u6 : wrap64 (-((bd : Int) - ba + 70) - 1) = -((bd : Int) - ba + 70) - 1 := by unfold wrap64; omega
   by_cases hr : M % D = 0
   ·exact ydec_longr_neg10 (w := w) (hs := hs) (hK := hK) (hN := hN) (Z1 := Z1) (Z2 := Z2) (C3 := C3) (C4 := C4) (C5 := C5) (C6 := C6) (C7 := C7) (C8 := C8) (C9 := C9) (C11 := C11 hr) (hrem := hr) (u0 := u0) (u1 := u1) (u2 := u2) (u3 := u3) (u4 := u4) (u5 := u5) (u6 := u6) (hN0 := hN0) (p1 := p1) (t0 := t0) (t1 := t1) (t2 := t2) (t3 := t3) (hg := hg) (hgN := hgN) (hN8 := hN8) (hrb := hrb) (q0 := q0) (q1 := q1) (q2 := q2) (_q3 := q3)
   ·exact ydec_longr_neg11 (w := w) (hs := hs) (hK := hK) (hN := hN) (Z1 := Z1) (Z2 := Z2) (C3 := C3) (C4 := C4) (C5 := C5) (C6 := C6) (C7 := C7) (C8 := C8) (C9 := C9) (C10 := C10) (C11 := C12 hr) (hrem := hr) (u0 := u0) (u1 := u1) (u2 := u2) (u3 := u3) (u4 := u4) (u5 := u5) (u6 := u6) (hN0 := hN0) (p1 := p1) (t0 := t0) (t1 := t1) (t2 := t2) (t3 := t3) (hg := hg) (hgN := hgN) (hN8 := hN8) (hrb := hrb) (q0 := q0) (q1 := q1) (q2 := q2) (_q3 := q3)
theorem rparse_dec (l : List Nat) (w : World) (hd : ∀ c ∈ l, dg10 c = true) (h0 : l ≠ []) (hl : l.length ≤ 820) : Cp 165 #[.string (strOf l), .int .i64 10] w (NOk (num 10 l) w) := by
 have hb := bl_strOf (dg_byte hd)
 have hz := strOf_size l
 have hp : 0 < l.length := List.length_pos_iff.2 h0
 have h := rparse_ok (strOf l) 10 w (by omega) (by omega) (by omega) (fun i hi => by
  rw [btn_bl _ _ hi, hb, List.getD_eq_getElem?_getD, List.getElem?_eq_getElem (by omega)]
  exact (dgt_ten (hd _ (List.getElem_mem _))).2) (by omega)
 rw [sv_num, hb] at h
 refine h.mono fun e w' x => NOk.of (lng_bln ?_) x
 have h1 := num_hi hd
 have h2 := bln_mono (Nat.le_of_lt h1)
 have h3 := bln_ten l.length
 omega
theorem bln_dec2 {l : List Nat} (hd : ∀ c ∈ l, dg10 c = true) (hl : l.length ≤ 820) : bln (num 10 l) ≤ 3300 := by
 have h2 := bln_mono (Nat.le_of_lt (num_hi hd))
 have h3 := bln_ten l.length
 omega
theorem ldz_drop (f : List Nat) : f.drop (f.length - (ldz f).length) = ldz f := by
 obtain ⟨z, hz⟩ := dropWhile_zeros f
 have hz' : f = List.replicate z 48 ++ ldz f := hz
 have hl := congrArg List.length hz'
 rw [List.length_append, List.length_replicate] at hl
 rw [show f.length - (ldz f).length = z by omega]
 conv => lhs; rw [hz']
 rw [List.drop_append, List.drop_of_length_le (by simp)]
 simp
theorem ldz_ahead (f : List Nat) (k : Nat) (h : k < f.length - (ldz f).length) : f[k]? = some 48 := by
 obtain ⟨z, hz⟩ := dropWhile_zeros f
 have hz' : f = List.replicate z 48 ++ ldz f := hz
 have hl := congrArg List.length hz'
 rw [List.length_append, List.length_replicate] at hl
 rw [hz', List.getElem?_append_left (by rw [List.length_replicate]; omega), List.getElem?_replicate, if_pos (by omega)]
theorem ydecimal_any (f : List Nat) (X : Int) (w : World) (hd : ∀ c ∈ f, dg10 c = true) (hl : f.length ≤ 281474976710656) (hX : -1125899906842624 < X ∧ X < 1125899906842624) :
  Ct 104 #[.string (strOf f), .int .i64 X] (.float .f64 (decR (num 10 f) X)) w := by
 have hb := bl_strOf (dg_byte hd)
 have hz := strOf_size f
 have hg : ∀ c ∈ ldz f, dg10 c = true := fun c hc => hd c (ldz_mem hc)
 have hgl : (ldz f).length ≤ f.length := (List.dropWhile_sublist _).length_le
 have hdr := ldz_drop f
 have hex : (strOf f).extract (f.length - (ldz f).length) (strOf f).size = strOf (ldz f) := by rw [ext_drop, hb, hdr]
 have hnum : num 10 (ldz f) = num 10 f := num_lead 10 f
 have Z1 : Hid (∀ k (h : k < (strOf f).size), k < f.length - (ldz f).length → ((strOf f)[k]'h).toNat = 48) := Lib.hid (fun k h hk => by
  have h1 := bl_get (strOf f) k h
  rw [hb, ldz_ahead f k hk] at h1
  exact (Option.some.inj h1).symm)
 have Z2 : Hid (∀ h : f.length - (ldz f).length < (strOf f).size, ((strOf f)[f.length - (ldz f).length]'h).toNat ≠ 48) := Lib.hid (fun h e => by
  have h1 := bl_get (strOf f) _ h
  rw [hb, e] at h1
  have h2 : (f.drop (f.length - (ldz f).length)).head? = some 48 := by rw [List.head?_drop]; exact h1
  rw [hdr] at h2
  exact lead_head f h2)
 obtain ⟨N, hN⟩ : ∃ N, (ldz f).length = N := ⟨_, rfl⟩
 obtain ⟨K, hK⟩ : ∃ K, f.length - (ldz f).length = K := ⟨_, rfl⟩
 rw [hK] at hex Z1 Z2
 have a1 : (strOf f).size ≤ 281474976710656 := by omega
 have a2 : K ≤ (strOf f).size := by omega
 have a3 : (strOf f).size - K = N := by omega
 by_cases h0 : N = 0
 ·have : ldz f = [] := List.length_eq_zero_iff.1 (by omega)
  rw [show decR (num 10 f) X = 0 by rw [← hnum, this, num_nil, decR_zero]]
  exact ydec_none (strOf f) K N X w a1 a2 a3 Z1 Z2 h0
 ·have hne : ldz f ≠ [] := fun e => h0 (by rw [← hN, e]; rfl)
  have p1 : wrap64 ((N : Int) + X) = (N : Int) + X := by unfold wrap64; omega
  have t0 : ((N : Int) == 0) = false := by rw [beq_eq_false_iff_ne]; omega
  by_cases h1 : 400 < (N : Int) + X
  ·rw [rway_high hd hne (by omega)]
   exact ydec_high (strOf f) K N X _ w a1 a2 a3 Z1 Z2 (by omega) p1 t0 (decide_eq_true h1)
  ·by_cases h2 : (N : Int) + X < -400
   ·rw [← hnum, decR_tiny (num_hi hg) (by omega)]
    exact ydec_low (strOf f) K N X _ w a1 a2 a3 Z1 Z2 (by omega) p1 t0 (decide_eq_false h1) (decide_eq_true h2)
   ·by_cases h3 : 820 < (N : Int)
    ·have hlen : (strOf (ldz f)).size = N := by rw [strOf_size, hN]
     have hbg := bl_strOf (dg_byte hg)
     have q0 : wrap64 (X + (N : Int)) = X + N := by unfold wrap64; omega
     have hlt : ((ldz f).take 810).length = 810 := by rw [List.length_take]; omega
     have htd : ∀ c ∈ (ldz f).take 810, dg10 c = true := fun c hc => hg c (List.mem_of_mem_take hc)
     have ht0 : (ldz f).take 810 ≠ [] := fun e => by rw [e] at hlt; simp at hlt
     have hth : ((ldz f).take 810).head? ≠ some 48 := by rw [head_take (by omega)]; exact lead_head f
     have hx8 : (strOf (ldz f)).extract 0 810 = strOf ((ldz f).take 810) := by rw [ext_take, hbg]
     cases hrb : ((ldz f).drop 810).any (· != 48)
     ·have hc : ∀ c ∈ (ldz f).drop 810, c = 48 := fun c hc => by
       have := List.any_eq_false.1 hrb c hc
       simpa using this
      rw [rway_none hc, hN, show X + ((N - 810 : Nat) : Int) = X + N - 810 by omega]
      have C3 : Hid (∀ W, Cp 165 #[.string ((strOf (ldz f)).extract 0 810), .int .i64 10] W (NOk (num 10 ((ldz f).take 810)) W)) := Lib.hid (fun W => by
       rw [hx8]
       exact rparse_dec _ W htd ht0 (by omega))
      exact ydec_longn (strOf f) K N X _ (num 10 ((ldz f).take 810)) (strOf (ldz f)) (X + N) (X + N - 810) w a1 a2 a3 Z1 Z2 (by omega) p1 t0 (decide_eq_false h1) (decide_eq_false h2) (decide_eq_true h3) hex hlen (by omega) (by rw [hbg]; exact hrb) q0 (by unfold wrap64; omega) C3
       (Nat.lt_of_lt_of_le (ten_pos _) (num_lo htd ht0 hth)) (bln_dec2 htd (by omega)) (by omega) (by omega)
     ·obtain ⟨c, hc1, hc2⟩ := List.any_eq_true.1 hrb
      rw [rway_some hd (by omega) (by omega) ⟨c, hc1, by simpa using hc2⟩, hN, show X + ((N - 810 : Nat) : Int) - 1 = X + N - 810 - 1 by omega]
      obtain ⟨l, hl2⟩ : ∃ l, (ldz f).take 810 ++ [49] = l := ⟨_, rfl⟩
      have ll : l.length = 811 := by rw [← hl2, List.length_append, hlt]; rfl
      have ld : ∀ c ∈ l, dg10 c = true := by
       intro c hc
       rw [← hl2] at hc
       rcases List.mem_append.1 hc with h | h
       ·exact htd c h
       ·rw [List.mem_singleton.1 h]; rfl
      have l0 : l ≠ [] := fun e => by rw [e] at ll; simp at ll
      have lh : l.head? ≠ some 48 := by
       rw [← hl2]
       cases ht : (ldz f).take 810 with
       | nil => exact absurd ht ht0
       | cons a b =>
        rw [ht] at hth
        exact hth
      have hstr : (strOf (ldz f)).extract 0 810 ++ (⟨#[49]⟩ : ByteArray) = strOf l := by
       rw [hx8, ← hl2, ← strOf_append]
       rfl
      rw [hl2]
      have C3 : Hid (∀ W, Cp 165 #[.string ((strOf (ldz f)).extract 0 810 ++ ⟨#[49]⟩), .int .i64 10] W (NOk (num 10 l) W)) := Lib.hid (fun W => by
       rw [hstr]
       exact rparse_dec _ W ld l0 (by omega))
      exact ydec_longr (strOf f) K N X _ (num 10 l) (strOf (ldz f)) (X + N) (X + N - 810) (X + N - 810 - 1) w a1 a2 a3 Z1 Z2 (by omega) p1 t0 (decide_eq_false h1) (decide_eq_false h2) (decide_eq_true h3) hex hlen (by omega) (by rw [hbg]; exact hrb) q0 (by unfold wrap64; omega) (by unfold wrap64; omega) (by rw [hx8, strOf_size]; omega) C3
       (Nat.lt_of_lt_of_le (ten_pos _) (num_lo ld l0 lh)) (bln_dec2 ld (by omega)) (by omega) (by omega)
    ·rw [← hnum]
     have C3 : Hid (∀ W, Cp 165 #[.string ((strOf f).extract K (strOf f).size), .int .i64 10] W (NOk (num 10 (ldz f)) W)) := Lib.hid (fun W => by
      rw [hex]
      exact rparse_dec _ W hg hne (by omega))
     exact ydec_short (strOf f) K N X _ (num 10 (ldz f)) w a1 a2 a3 Z1 Z2 (by omega) p1 t0 (decide_eq_false h1) (decide_eq_false h2) (decide_eq_false h3) C3
      (Nat.lt_of_lt_of_le (ten_pos _) (num_lo hg hne (lead_head f))) (bln_dec2 hg (by omega)) (by omega) (by omega)

end Go.Proofs.YtfcpkdafkmohkaaGreatDoor
namespace Go.Proofs.YtfcpkdafkmohkaaGreatDoor
open Go.RowKit
theorem amtS_stop : ∀ (g : List Nat) (n : Nat), 1099511627776 ≤ n → g.foldl amtS n = n
 | [], _, _ => rfl
 | c :: g, n, h => by
  have : amtS n c = n := if_neg (by omega)
  rw [List.foldl_cons, this]
  exact amtS_stop g n h
theorem amt_stop (f : List Nat) (j : Nat) (h : 1099511627776 ≤ amt (f.take j)) : amt f = amt (f.take j) := by
 conv => lhs; rw [← List.take_append_drop j f]
 unfold amt at h ⊢
 rw [List.foldl_append]
 exact amtS_stop _ _ h
end Go.Proofs.YtfcpkdafkmohkaaGreatDoor
namespace Go.Proofs.YtfcpkdafkmohkaaGreatDoor
set_option maxRecDepth 100000
open Go.RowKit
set_option maxHeartbeats 2000000 in
theorem ytail_end (s G : ByteArray) (at' F : Nat) (E : Int) (w : World) (hs : s.size ≤ 140737488355328)  (ha : at' = s.size)
  (C2 : Hid (∀ W, Ct 104 #[.string G, .int .i64 E] (.float .f64 F) W)) :
  Ct 138 #[.string s, .int .i64 (at' : Nat), .string G, .int .i64 E] (.tuple #[.int .i64 (at' : Nat), .float .f64 F]) w := by
 have h1 : (s.size : Int) ≤ 140737488355328 := by omega
 have a1 : (0 : Int) ≤ (at' : Int) := by omega
 have t0 : ¬ (at' : Int) < (s.size : Int) := by omega
 have a2 : (at' : Int) ≤ 140737488355328 := by omega
 clear hs ha
 go_enter Tryz.func138, Tryz.ntmps138
 go_wp2_with fail
 refine (C2.out _).mono ?_
 rintro e w' ⟨rfl, hb⟩
 go_wp2
 go_ret2
 exact ⟨rfl, hb⟩
set_option maxHeartbeats 2000000 in
theorem ytail_other (s G : ByteArray) (at' F : Nat) (E : Int) (w : World) (hs : s.size ≤ 140737488355328)  (B : Nat) (h : at' < s.size) (hB : (s[at']'h).toNat = B) (n1 : B ≠ 101) (n2 : B ≠ 69)
  (C2 : Hid (∀ W, Ct 104 #[.string G, .int .i64 E] (.float .f64 F) W)) :
  Ct 138 #[.string s, .int .i64 (at' : Nat), .string G, .int .i64 E] (.tuple #[.int .i64 (at' : Nat), .float .f64 F]) w := by
 have h1 : (s.size : Int) ≤ 140737488355328 := by omega
 have a1 : (0 : Int) ≤ (at' : Int) := by omega
 have a2 : (at' : Int) < (s.size : Int) := by omega
 have e0 : ((s[at']'h).toNat : Int) = (B : Int) := by rw [hB]
 have e1 : ((B : Int) == 101) = false := by rw [beq_eq_false_iff_ne]; omega
 have e2 : ((B : Int) == 69) = false := by rw [beq_eq_false_iff_ne]; omega
 clear hs hB n1 n2
 go_enter Tryz.func138, Tryz.ntmps138
 go_wp2_with fail
 refine (C2.out _).mono ?_
 rintro e w' ⟨rfl, hb⟩
 go_wp2
 go_ret2
 exact ⟨rfl, hb⟩
set_option maxHeartbeats 2000000 in
theorem ytail_101_none_0 (s G : ByteArray) (at' F : Nat) (E : Int) (w : World) (hs : s.size ≤ 140737488355328)  (h : at' < s.size) (hc : (s[at']'h).toNat = 101) (g : at' + 1 = s.size)
  (C1 : Hid (∀ W, Cq 137 #[.string s, .int .i64 ((at' : Int) + 1)] (.int .i64 0) W))
  (C2 : Hid (∀ W, Ct 104 #[.string G, .int .i64 E] (.float .f64 F) W)) :
  Ct 138 #[.string s, .int .i64 (at' : Nat), .string G, .int .i64 E] (.tuple #[.int .i64 (at' : Nat), .float .f64 F]) w := by
 have h1 : (s.size : Int) ≤ 140737488355328 := by omega
 have a1 : (0 : Int) ≤ (at' : Int) := by omega
 have a2 : (at' : Int) < (s.size : Int) := by omega
 have e0 : ((s[at']'h).toNat : Int) = 101 := by rw [hc]; rfl
 have t0 : decide ((at' : Int) + 1 < (s.size : Int)) = false := decide_eq_false (by omega)
 clear hs hc g
 go_enter Tryz.func138, Tryz.ntmps138
 go_wp2_with fail
 refine (C1.out _).mono ?_
 rintro e w' ⟨rfl, rfl⟩
 go_wp2_with fail
 refine (C2.out _).mono ?_
 rintro e w' ⟨rfl, hb⟩
 go_wp2
 go_ret2
 exact ⟨rfl, hb⟩
set_option maxHeartbeats 2000000 in
theorem ytail_101_plain_0 (s G : ByteArray) (at' F : Nat) (E : Int) (w : World) (hs : s.size ≤ 140737488355328)  (B : Nat) (h : at' < s.size) (hc : (s[at']'h).toNat = 101) (g : at' + 1 < s.size) (hB : (s[at' + 1]'g).toNat = B) (n1 : B ≠ 45) (n2 : B ≠ 43)
  (C1 : Hid (∀ W, Cq 137 #[.string s, .int .i64 ((at' : Int) + 1)] (.int .i64 0) W))
  (C2 : Hid (∀ W, Ct 104 #[.string G, .int .i64 E] (.float .f64 F) W)) :
  Ct 138 #[.string s, .int .i64 (at' : Nat), .string G, .int .i64 E] (.tuple #[.int .i64 (at' : Nat), .float .f64 F]) w := by
 have h1 : (s.size : Int) ≤ 140737488355328 := by omega
 have a1 : (0 : Int) ≤ (at' : Int) := by omega
 have a2 : (at' : Int) < (s.size : Int) := by omega
 have e0 : ((s[at']'h).toNat : Int) = 101 := by rw [hc]; rfl
 have b1 : (0 : Int) ≤ (at' : Int) + 1 := by omega
 have b2 : (at' : Int) + 1 < (s.size : Int) := by omega
 have b3 : ((at' : Int) + 1).toNat = at' + 1 := by omega
 have e1 : ((s[at' + 1]'g).toNat : Int) = (B : Int) := by rw [hB]
 have e2 : ((B : Int) == 45) = false := by rw [beq_eq_false_iff_ne]; omega
 have e3 : ((B : Int) == 43) = false := by rw [beq_eq_false_iff_ne]; omega
 clear hs hc hB n1 n2
 go_enter Tryz.func138, Tryz.ntmps138
 go_wp2_with fail
 refine (C1.out _).mono ?_
 rintro e w' ⟨rfl, rfl⟩
 go_wp2_with fail
 refine (C2.out _).mono ?_
 rintro e w' ⟨rfl, hb⟩
 go_wp2
 go_ret2
 exact ⟨rfl, hb⟩
set_option maxHeartbeats 2000000 in
theorem ytail_101_plain_1 (s G : ByteArray) (at' F : Nat) (E : Int) (w : World) (hs : s.size ≤ 140737488355328) (hE1 : -281474976710656 ≤ E) (hE2 : E ≤ 281474976710656) (B : Nat) (n : Nat) (R : List Nat) (h : at' < s.size) (hc : (s[at']'h).toNat = 101) (g : at' + 1 < s.size) (hB : (s[at' + 1]'g).toNat = B) (n1 : B ≠ 45) (n2 : B ≠ 43) (hn0 : 0 < n) (hR : R.length = n) (hd : ∀ c ∈ R, dg10 c = true) (hRs : ∀ j, j < n → ∃ hj : at' + 1 + j < s.size, R[j]? = some (s[at' + 1 + j]'hj).toNat)
  (C1 : Hid (∀ W, Cq 137 #[.string s, .int .i64 ((at' : Int) + 1)] (.int .i64 (n : Nat)) W))
  (C2 : Hid (∀ W, Ct 104 #[.string G, .int .i64 (E + (amt R : Nat))] (.float .f64 F) W)) :
  Ct 138 #[.string s, .int .i64 (at' : Nat), .string G, .int .i64 E] (.tuple #[.int .i64 ((at' : Int) + 1 + (n : Int)), .float .f64 F]) w := by
 have h1 : (s.size : Int) ≤ 140737488355328 := by omega
 have a1 : (0 : Int) ≤ (at' : Int) := by omega
 have a2 : (at' : Int) < (s.size : Int) := by omega
 have e0 : ((s[at']'h).toNat : Int) = 101 := by rw [hc]; rfl
 have b1 : (0 : Int) ≤ (at' : Int) + 1 := by omega
 have b2 : (at' : Int) + 1 < (s.size : Int) := by omega
 have b3 : ((at' : Int) + 1).toNat = at' + 1 := by omega
 have e1 : ((s[at' + 1]'g).toNat : Int) = (B : Int) := by rw [hB]
 have e2 : ((B : Int) == 45) = false := by rw [beq_eq_false_iff_ne]; omega
 have e3 : ((B : Int) == 43) = false := by rw [beq_eq_false_iff_ne]; omega
 have hnl : n ≤ s.size := by
  obtain ⟨x, _⟩ := hRs (n - 1) (by omega)
  omega
 have n3 : (n : Int) ≤ (s.size : Int) := by omega
 have n4 : (0 : Int) < (n : Int) := by omega
 have HD := Lib.hid hd
 have HR := Lib.hid hR
 have HRS := Lib.hid hRs
 clear hd hR hRs hn0 hnl
 clear hs hc hB n1 n2
 go_enter Tryz.func138, Tryz.ntmps138
 go_wp2_with fail
 refine (C1.out _).mono ?_
 rintro e w' ⟨rfl, rfl⟩
 go_wp2
 clear e0 e1 e2 e3 n4
 go_loopw [13, 14] (fun x i wr => ∃ j : Nat, i = .int .i64 j ∧ j ≤ n ∧ x = .int .i64 (amt (R.take j) : Nat) ∧ w = wr) (fun _ i _ => n - (intOf i).toNat)
 case atStart => exact ⟨0, rfl, Nat.zero_le _, rfl, rfl⟩
 case round =>
  obtain ⟨j, rfl, hj, rfl, rfl⟩ := hrel
  obtain ⟨N, hN⟩ : ∃ N, amt (R.take j) = N := ⟨_, rfl⟩
  have hNl : N < 10995116277760 := by rw [← hN]; exact amt_lt _ (fun c hc => HD.out c (List.mem_of_mem_take hc))
  have hNl2 : (N : Int) < 10995116277760 := by omega
  have HN := Lib.hid hN
  rw [hN]
  clear hN
  by_cases hlt : j < n
  ·have l1 : (j : Int) < (n : Int) := by omega
   by_cases hst : N < 1099511627776
   ·obtain ⟨hx, hget⟩ := HRS.out j hlt
    obtain ⟨B9, hB9⟩ : ∃ B9 : Nat, (s[at' + 1 + j]'hx).toNat = B9 := ⟨_, rfl⟩
    rw [hB9] at hget
    have hdB := dg10_iff.1 (HD.out B9 (List.mem_of_getElem? hget))
    have hstep : amt (R.take (j + 1)) = N * 10 + (B9 - 48) := by
     rw [List.take_add_one, hget]
     refine (amt_snoc _ _).trans ?_
     rw [HN.out]
     exact if_pos hst
    obtain ⟨D, hD⟩ : ∃ D : Nat, B9 - 48 = D := ⟨_, rfl⟩
    obtain ⟨M, hM⟩ : ∃ M : Nat, N * 10 + D = M := ⟨_, rfl⟩
    have HS := Lib.hid (show amt (R.take (j + 1)) = M from by rw [hstep, hD, hM])
    have l2 : (N : Int) < 1099511627776 := by omega
    have l3 : (0 : Int) ≤ (at' : Int) + 1 + (j : Int) := by omega
    have l4 : (at' : Int) + 1 + (j : Int) < (s.size : Int) := by omega
    have l5 : ((at' : Int) + 1 + (j : Int)).toNat = at' + 1 + j := by omega
    have l6 : ((s[at' + 1 + j]'hx).toNat : Int) = (B9 : Int) := by rw [hB9]
    have l7 : IntKind.u8.wrap ((B9 : Int) - 48) = (D : Int) := by rw [IntWalk.u8_in _ (by omega)]; omega
    have l8 : IntKind.i64.wrap (D : Int) = (D : Int) := IntWalk.i64_in _ (by omega)
    have l9 : (N : Int) * 10 + (D : Int) = (M : Int) := by omega
    have l10 : IntKind.i64.wrap ((N : Int) * 10) = (N : Int) * 10 := IntWalk.i64_in _ (by omega)
    have l11 : IntKind.i64.wrap ((N : Int) * 10 + (D : Int)) = (M : Int) := by rw [IntWalk.i64_in _ (by omega)]; omega
    clear hstep hD hM hdB hget hB9 hst l9 hNl
    go_wp2
    exact ⟨⟨j + 1, by go_num, by omega, by rw [HS.out], trivial⟩, by simp [intOf]; omega⟩
   ·have HZ := Lib.hid (show amt R = N from by rw [amt_stop R j (by rw [HN.out]; omega), HN.out])
    have l2 : decide ((N : Int) < 1099511627776) = false := decide_eq_false (by omega)
    rw [HZ.out] at C2
    clear hst hNl
    go_wp2_with fail
    refine (C2.out _).mono ?_
    rintro e w' ⟨rfl, hb⟩
    go_wp2
    go_ret2
    exact ⟨rfl, hb⟩
  ·have HZ := Lib.hid (show amt R = N from by rw [← HN.out, List.take_of_length_le (by rw [HR.out]; omega)])
   have l2 : ¬ (j : Int) < (n : Int) := by omega
   rw [HZ.out] at C2
   clear hlt hNl
   go_wp2_with fail
   refine (C2.out _).mono ?_
   rintro e w' ⟨rfl, hb⟩
   go_wp2
   go_ret2
   exact ⟨rfl, hb⟩
set_option maxHeartbeats 2000000 in
theorem ytail_101_minus_0 (s G : ByteArray) (at' F : Nat) (E : Int) (w : World) (hs : s.size ≤ 140737488355328)  (h : at' < s.size) (hc : (s[at']'h).toNat = 101) (g : at' + 1 < s.size) (hB : (s[at' + 1]'g).toNat = 45)
  (C1 : Hid (∀ W, Cq 137 #[.string s, .int .i64 ((at' : Int) + 1 + 1)] (.int .i64 0) W))
  (C2 : Hid (∀ W, Ct 104 #[.string G, .int .i64 E] (.float .f64 F) W)) :
  Ct 138 #[.string s, .int .i64 (at' : Nat), .string G, .int .i64 E] (.tuple #[.int .i64 (at' : Nat), .float .f64 F]) w := by
 have h1 : (s.size : Int) ≤ 140737488355328 := by omega
 have a1 : (0 : Int) ≤ (at' : Int) := by omega
 have a2 : (at' : Int) < (s.size : Int) := by omega
 have e0 : ((s[at']'h).toNat : Int) = 101 := by rw [hc]; rfl
 have b1 : (0 : Int) ≤ (at' : Int) + 1 := by omega
 have b2 : (at' : Int) + 1 < (s.size : Int) := by omega
 have b3 : ((at' : Int) + 1).toNat = at' + 1 := by omega
 have e1 : ((s[at' + 1]'g).toNat : Int) = 45 := by rw [hB]; rfl
 clear hs hc hB
 go_enter Tryz.func138, Tryz.ntmps138
 go_wp2_with fail
 refine (C1.out _).mono ?_
 rintro e w' ⟨rfl, rfl⟩
 go_wp2_with fail
 refine (C2.out _).mono ?_
 rintro e w' ⟨rfl, hb⟩
 go_wp2
 go_ret2
 exact ⟨rfl, hb⟩
set_option maxHeartbeats 2000000 in
theorem ytail_101_minus_1 (s G : ByteArray) (at' F : Nat) (E : Int) (w : World) (hs : s.size ≤ 140737488355328) (hE1 : -281474976710656 ≤ E) (hE2 : E ≤ 281474976710656) (n : Nat) (R : List Nat) (h : at' < s.size) (hc : (s[at']'h).toNat = 101) (g : at' + 1 < s.size) (hB : (s[at' + 1]'g).toNat = 45) (hn0 : 0 < n) (hR : R.length = n) (hd : ∀ c ∈ R, dg10 c = true) (hRs : ∀ j, j < n → ∃ hj : at' + 2 + j < s.size, R[j]? = some (s[at' + 2 + j]'hj).toNat)
  (C1 : Hid (∀ W, Cq 137 #[.string s, .int .i64 ((at' : Int) + 1 + 1)] (.int .i64 (n : Nat)) W))
  (C2 : Hid (∀ W, Ct 104 #[.string G, .int .i64 (E + -(amt R : Nat))] (.float .f64 F) W)) :
  Ct 138 #[.string s, .int .i64 (at' : Nat), .string G, .int .i64 E] (.tuple #[.int .i64 ((at' : Int) + 1 + 1 + (n : Int)), .float .f64 F]) w := by
 have h1 : (s.size : Int) ≤ 140737488355328 := by omega
 have a1 : (0 : Int) ≤ (at' : Int) := by omega
 have a2 : (at' : Int) < (s.size : Int) := by omega
 have e0 : ((s[at']'h).toNat : Int) = 101 := by rw [hc]; rfl
 have b1 : (0 : Int) ≤ (at' : Int) + 1 := by omega
 have b2 : (at' : Int) + 1 < (s.size : Int) := by omega
 have b3 : ((at' : Int) + 1).toNat = at' + 1 := by omega
 have e1 : ((s[at' + 1]'g).toNat : Int) = 45 := by rw [hB]; rfl
 have hnl : n ≤ s.size := by
  obtain ⟨x, _⟩ := hRs (n - 1) (by omega)
  omega
 have n3 : (n : Int) ≤ (s.size : Int) := by omega
 have n4 : (0 : Int) < (n : Int) := by omega
 have HD := Lib.hid hd
 have HR := Lib.hid hR
 have HRS := Lib.hid hRs
 clear hd hR hRs hn0 hnl
 clear hs hc hB
 go_enter Tryz.func138, Tryz.ntmps138
 go_wp2_with fail
 refine (C1.out _).mono ?_
 rintro e w' ⟨rfl, rfl⟩
 go_wp2
 clear e0 e1 n4
 go_loopw [13, 14] (fun x i wr => ∃ j : Nat, i = .int .i64 j ∧ j ≤ n ∧ x = .int .i64 (amt (R.take j) : Nat) ∧ w = wr) (fun _ i _ => n - (intOf i).toNat)
 case atStart => exact ⟨0, rfl, Nat.zero_le _, rfl, rfl⟩
 case round =>
  obtain ⟨j, rfl, hj, rfl, rfl⟩ := hrel
  obtain ⟨N, hN⟩ : ∃ N, amt (R.take j) = N := ⟨_, rfl⟩
  have hNl : N < 10995116277760 := by rw [← hN]; exact amt_lt _ (fun c hc => HD.out c (List.mem_of_mem_take hc))
  have hNl2 : (N : Int) < 10995116277760 := by omega
  have HN := Lib.hid hN
  rw [hN]
  clear hN
  by_cases hlt : j < n
  ·have l1 : (j : Int) < (n : Int) := by omega
   by_cases hst : N < 1099511627776
   ·obtain ⟨hx, hget⟩ := HRS.out j hlt
    obtain ⟨B9, hB9⟩ : ∃ B9 : Nat, (s[at' + 2 + j]'hx).toNat = B9 := ⟨_, rfl⟩
    rw [hB9] at hget
    have hdB := dg10_iff.1 (HD.out B9 (List.mem_of_getElem? hget))
    have hstep : amt (R.take (j + 1)) = N * 10 + (B9 - 48) := by
     rw [List.take_add_one, hget]
     refine (amt_snoc _ _).trans ?_
     rw [HN.out]
     exact if_pos hst
    obtain ⟨D, hD⟩ : ∃ D : Nat, B9 - 48 = D := ⟨_, rfl⟩
    obtain ⟨M, hM⟩ : ∃ M : Nat, N * 10 + D = M := ⟨_, rfl⟩
    have HS := Lib.hid (show amt (R.take (j + 1)) = M from by rw [hstep, hD, hM])
    have l2 : (N : Int) < 1099511627776 := by omega
    have l3 : (0 : Int) ≤ (at' : Int) + 1 + 1 + (j : Int) := by omega
    have l4 : (at' : Int) + 1 + 1 + (j : Int) < (s.size : Int) := by omega
    have l5 : ((at' : Int) + 1 + 1 + (j : Int)).toNat = at' + 2 + j := by omega
    have l6 : ((s[at' + 2 + j]'hx).toNat : Int) = (B9 : Int) := by rw [hB9]
    have l7 : IntKind.u8.wrap ((B9 : Int) - 48) = (D : Int) := by rw [IntWalk.u8_in _ (by omega)]; omega
    have l8 : IntKind.i64.wrap (D : Int) = (D : Int) := IntWalk.i64_in _ (by omega)
    have l9 : (N : Int) * 10 + (D : Int) = (M : Int) := by omega
    have l10 : IntKind.i64.wrap ((N : Int) * 10) = (N : Int) * 10 := IntWalk.i64_in _ (by omega)
    have l11 : IntKind.i64.wrap ((N : Int) * 10 + (D : Int)) = (M : Int) := by rw [IntWalk.i64_in _ (by omega)]; omega
    clear hstep hD hM hdB hget hB9 hst l9 hNl
    go_wp2
    exact ⟨⟨j + 1, by go_num, by omega, by rw [HS.out], trivial⟩, by simp [intOf]; omega⟩
   ·have HZ := Lib.hid (show amt R = N from by rw [amt_stop R j (by rw [HN.out]; omega), HN.out])
    have l2 : decide ((N : Int) < 1099511627776) = false := decide_eq_false (by omega)
    rw [HZ.out] at C2
    clear hst hNl
    go_wp2_with fail
    refine (C2.out _).mono ?_
    rintro e w' ⟨rfl, hb⟩
    go_wp2
    go_ret2
    exact ⟨rfl, hb⟩
  ·have HZ := Lib.hid (show amt R = N from by rw [← HN.out, List.take_of_length_le (by rw [HR.out]; omega)])
   have l2 : ¬ (j : Int) < (n : Int) := by omega
   rw [HZ.out] at C2
   clear hlt hNl
   go_wp2_with fail
   refine (C2.out _).mono ?_
   rintro e w' ⟨rfl, hb⟩
   go_wp2
   go_ret2
   exact ⟨rfl, hb⟩
set_option maxHeartbeats 2000000 in
theorem ytail_101_plus_0 (s G : ByteArray) (at' F : Nat) (E : Int) (w : World) (hs : s.size ≤ 140737488355328)  (h : at' < s.size) (hc : (s[at']'h).toNat = 101) (g : at' + 1 < s.size) (hB : (s[at' + 1]'g).toNat = 43)
  (C1 : Hid (∀ W, Cq 137 #[.string s, .int .i64 ((at' : Int) + 1 + 1)] (.int .i64 0) W))
  (C2 : Hid (∀ W, Ct 104 #[.string G, .int .i64 E] (.float .f64 F) W)) :
  Ct 138 #[.string s, .int .i64 (at' : Nat), .string G, .int .i64 E] (.tuple #[.int .i64 (at' : Nat), .float .f64 F]) w := by
 have h1 : (s.size : Int) ≤ 140737488355328 := by omega
 have a1 : (0 : Int) ≤ (at' : Int) := by omega
 have a2 : (at' : Int) < (s.size : Int) := by omega
 have e0 : ((s[at']'h).toNat : Int) = 101 := by rw [hc]; rfl
 have b1 : (0 : Int) ≤ (at' : Int) + 1 := by omega
 have b2 : (at' : Int) + 1 < (s.size : Int) := by omega
 have b3 : ((at' : Int) + 1).toNat = at' + 1 := by omega
 have e1 : ((s[at' + 1]'g).toNat : Int) = 43 := by rw [hB]; rfl
 clear hs hc hB
 go_enter Tryz.func138, Tryz.ntmps138
 go_wp2_with fail
 refine (C1.out _).mono ?_
 rintro e w' ⟨rfl, rfl⟩
 go_wp2_with fail
 refine (C2.out _).mono ?_
 rintro e w' ⟨rfl, hb⟩
 go_wp2
 go_ret2
 exact ⟨rfl, hb⟩
set_option maxHeartbeats 2000000 in
theorem ytail_101_plus_1 (s G : ByteArray) (at' F : Nat) (E : Int) (w : World) (hs : s.size ≤ 140737488355328) (hE1 : -281474976710656 ≤ E) (hE2 : E ≤ 281474976710656) (n : Nat) (R : List Nat) (h : at' < s.size) (hc : (s[at']'h).toNat = 101) (g : at' + 1 < s.size) (hB : (s[at' + 1]'g).toNat = 43) (hn0 : 0 < n) (hR : R.length = n) (hd : ∀ c ∈ R, dg10 c = true) (hRs : ∀ j, j < n → ∃ hj : at' + 2 + j < s.size, R[j]? = some (s[at' + 2 + j]'hj).toNat)
  (C1 : Hid (∀ W, Cq 137 #[.string s, .int .i64 ((at' : Int) + 1 + 1)] (.int .i64 (n : Nat)) W))
  (C2 : Hid (∀ W, Ct 104 #[.string G, .int .i64 (E + (amt R : Nat))] (.float .f64 F) W)) :
  Ct 138 #[.string s, .int .i64 (at' : Nat), .string G, .int .i64 E] (.tuple #[.int .i64 ((at' : Int) + 1 + 1 + (n : Int)), .float .f64 F]) w := by
 have h1 : (s.size : Int) ≤ 140737488355328 := by omega
 have a1 : (0 : Int) ≤ (at' : Int) := by omega
 have a2 : (at' : Int) < (s.size : Int) := by omega
 have e0 : ((s[at']'h).toNat : Int) = 101 := by rw [hc]; rfl
 have b1 : (0 : Int) ≤ (at' : Int) + 1 := by omega
 have b2 : (at' : Int) + 1 < (s.size : Int) := by omega
 have b3 : ((at' : Int) + 1).toNat = at' + 1 := by omega
 have e1 : ((s[at' + 1]'g).toNat : Int) = 43 := by rw [hB]; rfl
 have hnl : n ≤ s.size := by
  obtain ⟨x, _⟩ := hRs (n - 1) (by omega)
  omega
 have n3 : (n : Int) ≤ (s.size : Int) := by omega
 have n4 : (0 : Int) < (n : Int) := by omega
 have HD := Lib.hid hd
 have HR := Lib.hid hR
 have HRS := Lib.hid hRs
 clear hd hR hRs hn0 hnl
 clear hs hc hB
 go_enter Tryz.func138, Tryz.ntmps138
 go_wp2_with fail
 refine (C1.out _).mono ?_
 rintro e w' ⟨rfl, rfl⟩
 go_wp2
 clear e0 e1 n4
 go_loopw [13, 14] (fun x i wr => ∃ j : Nat, i = .int .i64 j ∧ j ≤ n ∧ x = .int .i64 (amt (R.take j) : Nat) ∧ w = wr) (fun _ i _ => n - (intOf i).toNat)
 case atStart => exact ⟨0, rfl, Nat.zero_le _, rfl, rfl⟩
 case round =>
  obtain ⟨j, rfl, hj, rfl, rfl⟩ := hrel
  obtain ⟨N, hN⟩ : ∃ N, amt (R.take j) = N := ⟨_, rfl⟩
  have hNl : N < 10995116277760 := by rw [← hN]; exact amt_lt _ (fun c hc => HD.out c (List.mem_of_mem_take hc))
  have hNl2 : (N : Int) < 10995116277760 := by omega
  have HN := Lib.hid hN
  rw [hN]
  clear hN
  by_cases hlt : j < n
  ·have l1 : (j : Int) < (n : Int) := by omega
   by_cases hst : N < 1099511627776
   ·obtain ⟨hx, hget⟩ := HRS.out j hlt
    obtain ⟨B9, hB9⟩ : ∃ B9 : Nat, (s[at' + 2 + j]'hx).toNat = B9 := ⟨_, rfl⟩
    rw [hB9] at hget
    have hdB := dg10_iff.1 (HD.out B9 (List.mem_of_getElem? hget))
    have hstep : amt (R.take (j + 1)) = N * 10 + (B9 - 48) := by
     rw [List.take_add_one, hget]
     refine (amt_snoc _ _).trans ?_
     rw [HN.out]
     exact if_pos hst
    obtain ⟨D, hD⟩ : ∃ D : Nat, B9 - 48 = D := ⟨_, rfl⟩
    obtain ⟨M, hM⟩ : ∃ M : Nat, N * 10 + D = M := ⟨_, rfl⟩
    have HS := Lib.hid (show amt (R.take (j + 1)) = M from by rw [hstep, hD, hM])
    have l2 : (N : Int) < 1099511627776 := by omega
    have l3 : (0 : Int) ≤ (at' : Int) + 1 + 1 + (j : Int) := by omega
    have l4 : (at' : Int) + 1 + 1 + (j : Int) < (s.size : Int) := by omega
    have l5 : ((at' : Int) + 1 + 1 + (j : Int)).toNat = at' + 2 + j := by omega
    have l6 : ((s[at' + 2 + j]'hx).toNat : Int) = (B9 : Int) := by rw [hB9]
    have l7 : IntKind.u8.wrap ((B9 : Int) - 48) = (D : Int) := by rw [IntWalk.u8_in _ (by omega)]; omega
    have l8 : IntKind.i64.wrap (D : Int) = (D : Int) := IntWalk.i64_in _ (by omega)
    have l9 : (N : Int) * 10 + (D : Int) = (M : Int) := by omega
    have l10 : IntKind.i64.wrap ((N : Int) * 10) = (N : Int) * 10 := IntWalk.i64_in _ (by omega)
    have l11 : IntKind.i64.wrap ((N : Int) * 10 + (D : Int)) = (M : Int) := by rw [IntWalk.i64_in _ (by omega)]; omega
    clear hstep hD hM hdB hget hB9 hst l9 hNl
    go_wp2
    exact ⟨⟨j + 1, by go_num, by omega, by rw [HS.out], trivial⟩, by simp [intOf]; omega⟩
   ·have HZ := Lib.hid (show amt R = N from by rw [amt_stop R j (by rw [HN.out]; omega), HN.out])
    have l2 : decide ((N : Int) < 1099511627776) = false := decide_eq_false (by omega)
    rw [HZ.out] at C2
    clear hst hNl
    go_wp2_with fail
    refine (C2.out _).mono ?_
    rintro e w' ⟨rfl, hb⟩
    go_wp2
    go_ret2
    exact ⟨rfl, hb⟩
  ·have HZ := Lib.hid (show amt R = N from by rw [← HN.out, List.take_of_length_le (by rw [HR.out]; omega)])
   have l2 : ¬ (j : Int) < (n : Int) := by omega
   rw [HZ.out] at C2
   clear hlt hNl
   go_wp2_with fail
   refine (C2.out _).mono ?_
   rintro e w' ⟨rfl, hb⟩
   go_wp2
   go_ret2
   exact ⟨rfl, hb⟩
set_option maxHeartbeats 2000000 in
theorem ytail_69_none_0 (s G : ByteArray) (at' F : Nat) (E : Int) (w : World) (hs : s.size ≤ 140737488355328)  (h : at' < s.size) (hc : (s[at']'h).toNat = 69) (g : at' + 1 = s.size)
  (C1 : Hid (∀ W, Cq 137 #[.string s, .int .i64 ((at' : Int) + 1)] (.int .i64 0) W))
  (C2 : Hid (∀ W, Ct 104 #[.string G, .int .i64 E] (.float .f64 F) W)) :
  Ct 138 #[.string s, .int .i64 (at' : Nat), .string G, .int .i64 E] (.tuple #[.int .i64 (at' : Nat), .float .f64 F]) w := by
 have h1 : (s.size : Int) ≤ 140737488355328 := by omega
 have a1 : (0 : Int) ≤ (at' : Int) := by omega
 have a2 : (at' : Int) < (s.size : Int) := by omega
 have e0 : ((s[at']'h).toNat : Int) = 69 := by rw [hc]; rfl
 have t0 : decide ((at' : Int) + 1 < (s.size : Int)) = false := decide_eq_false (by omega)
 clear hs hc g
 go_enter Tryz.func138, Tryz.ntmps138
 go_wp2_with fail
 refine (C1.out _).mono ?_
 rintro e w' ⟨rfl, rfl⟩
 go_wp2_with fail
 refine (C2.out _).mono ?_
 rintro e w' ⟨rfl, hb⟩
 go_wp2
 go_ret2
 exact ⟨rfl, hb⟩
set_option maxHeartbeats 2000000 in
theorem ytail_69_plain_0 (s G : ByteArray) (at' F : Nat) (E : Int) (w : World) (hs : s.size ≤ 140737488355328)  (B : Nat) (h : at' < s.size) (hc : (s[at']'h).toNat = 69) (g : at' + 1 < s.size) (hB : (s[at' + 1]'g).toNat = B) (n1 : B ≠ 45) (n2 : B ≠ 43)
  (C1 : Hid (∀ W, Cq 137 #[.string s, .int .i64 ((at' : Int) + 1)] (.int .i64 0) W))
  (C2 : Hid (∀ W, Ct 104 #[.string G, .int .i64 E] (.float .f64 F) W)) :
  Ct 138 #[.string s, .int .i64 (at' : Nat), .string G, .int .i64 E] (.tuple #[.int .i64 (at' : Nat), .float .f64 F]) w := by
 have h1 : (s.size : Int) ≤ 140737488355328 := by omega
 have a1 : (0 : Int) ≤ (at' : Int) := by omega
 have a2 : (at' : Int) < (s.size : Int) := by omega
 have e0 : ((s[at']'h).toNat : Int) = 69 := by rw [hc]; rfl
 have b1 : (0 : Int) ≤ (at' : Int) + 1 := by omega
 have b2 : (at' : Int) + 1 < (s.size : Int) := by omega
 have b3 : ((at' : Int) + 1).toNat = at' + 1 := by omega
 have e1 : ((s[at' + 1]'g).toNat : Int) = (B : Int) := by rw [hB]
 have e2 : ((B : Int) == 45) = false := by rw [beq_eq_false_iff_ne]; omega
 have e3 : ((B : Int) == 43) = false := by rw [beq_eq_false_iff_ne]; omega
 clear hs hc hB n1 n2
 go_enter Tryz.func138, Tryz.ntmps138
 go_wp2_with fail
 refine (C1.out _).mono ?_
 rintro e w' ⟨rfl, rfl⟩
 go_wp2_with fail
 refine (C2.out _).mono ?_
 rintro e w' ⟨rfl, hb⟩
 go_wp2
 go_ret2
 exact ⟨rfl, hb⟩
set_option maxHeartbeats 2000000 in
theorem ytail_69_plain_1 (s G : ByteArray) (at' F : Nat) (E : Int) (w : World) (hs : s.size ≤ 140737488355328) (hE1 : -281474976710656 ≤ E) (hE2 : E ≤ 281474976710656) (B : Nat) (n : Nat) (R : List Nat) (h : at' < s.size) (hc : (s[at']'h).toNat = 69) (g : at' + 1 < s.size) (hB : (s[at' + 1]'g).toNat = B) (n1 : B ≠ 45) (n2 : B ≠ 43) (hn0 : 0 < n) (hR : R.length = n) (hd : ∀ c ∈ R, dg10 c = true) (hRs : ∀ j, j < n → ∃ hj : at' + 1 + j < s.size, R[j]? = some (s[at' + 1 + j]'hj).toNat)
  (C1 : Hid (∀ W, Cq 137 #[.string s, .int .i64 ((at' : Int) + 1)] (.int .i64 (n : Nat)) W))
  (C2 : Hid (∀ W, Ct 104 #[.string G, .int .i64 (E + (amt R : Nat))] (.float .f64 F) W)) :
  Ct 138 #[.string s, .int .i64 (at' : Nat), .string G, .int .i64 E] (.tuple #[.int .i64 ((at' : Int) + 1 + (n : Int)), .float .f64 F]) w := by
 have h1 : (s.size : Int) ≤ 140737488355328 := by omega
 have a1 : (0 : Int) ≤ (at' : Int) := by omega
 have a2 : (at' : Int) < (s.size : Int) := by omega
 have e0 : ((s[at']'h).toNat : Int) = 69 := by rw [hc]; rfl
 have b1 : (0 : Int) ≤ (at' : Int) + 1 := by omega
 have b2 : (at' : Int) + 1 < (s.size : Int) := by omega
 have b3 : ((at' : Int) + 1).toNat = at' + 1 := by omega
 have e1 : ((s[at' + 1]'g).toNat : Int) = (B : Int) := by rw [hB]
 have e2 : ((B : Int) == 45) = false := by rw [beq_eq_false_iff_ne]; omega
 have e3 : ((B : Int) == 43) = false := by rw [beq_eq_false_iff_ne]; omega
 have hnl : n ≤ s.size := by
  obtain ⟨x, _⟩ := hRs (n - 1) (by omega)
  omega
 have n3 : (n : Int) ≤ (s.size : Int) := by omega
 have n4 : (0 : Int) < (n : Int) := by omega
 have HD := Lib.hid hd
 have HR := Lib.hid hR
 have HRS := Lib.hid hRs
 clear hd hR hRs hn0 hnl
 clear hs hc hB n1 n2
 go_enter Tryz.func138, Tryz.ntmps138
 go_wp2_with fail
 refine (C1.out _).mono ?_
 rintro e w' ⟨rfl, rfl⟩
 go_wp2
 clear e0 e1 e2 e3 n4
 go_loopw [13, 14] (fun x i wr => ∃ j : Nat, i = .int .i64 j ∧ j ≤ n ∧ x = .int .i64 (amt (R.take j) : Nat) ∧ w = wr) (fun _ i _ => n - (intOf i).toNat)
 case atStart => exact ⟨0, rfl, Nat.zero_le _, rfl, rfl⟩
 case round =>
  obtain ⟨j, rfl, hj, rfl, rfl⟩ := hrel
  obtain ⟨N, hN⟩ : ∃ N, amt (R.take j) = N := ⟨_, rfl⟩
  have hNl : N < 10995116277760 := by rw [← hN]; exact amt_lt _ (fun c hc => HD.out c (List.mem_of_mem_take hc))
  have hNl2 : (N : Int) < 10995116277760 := by omega
  have HN := Lib.hid hN
  rw [hN]
  clear hN
  by_cases hlt : j < n
  ·have l1 : (j : Int) < (n : Int) := by omega
   by_cases hst : N < 1099511627776
   ·obtain ⟨hx, hget⟩ := HRS.out j hlt
    obtain ⟨B9, hB9⟩ : ∃ B9 : Nat, (s[at' + 1 + j]'hx).toNat = B9 := ⟨_, rfl⟩
    rw [hB9] at hget
    have hdB := dg10_iff.1 (HD.out B9 (List.mem_of_getElem? hget))
    have hstep : amt (R.take (j + 1)) = N * 10 + (B9 - 48) := by
     rw [List.take_add_one, hget]
     refine (amt_snoc _ _).trans ?_
     rw [HN.out]
     exact if_pos hst
    obtain ⟨D, hD⟩ : ∃ D : Nat, B9 - 48 = D := ⟨_, rfl⟩
    obtain ⟨M, hM⟩ : ∃ M : Nat, N * 10 + D = M := ⟨_, rfl⟩
    have HS := Lib.hid (show amt (R.take (j + 1)) = M from by rw [hstep, hD, hM])
    have l2 : (N : Int) < 1099511627776 := by omega
    have l3 : (0 : Int) ≤ (at' : Int) + 1 + (j : Int) := by omega
    have l4 : (at' : Int) + 1 + (j : Int) < (s.size : Int) := by omega
    have l5 : ((at' : Int) + 1 + (j : Int)).toNat = at' + 1 + j := by omega
    have l6 : ((s[at' + 1 + j]'hx).toNat : Int) = (B9 : Int) := by rw [hB9]
    have l7 : IntKind.u8.wrap ((B9 : Int) - 48) = (D : Int) := by rw [IntWalk.u8_in _ (by omega)]; omega
    have l8 : IntKind.i64.wrap (D : Int) = (D : Int) := IntWalk.i64_in _ (by omega)
    have l9 : (N : Int) * 10 + (D : Int) = (M : Int) := by omega
    have l10 : IntKind.i64.wrap ((N : Int) * 10) = (N : Int) * 10 := IntWalk.i64_in _ (by omega)
    have l11 : IntKind.i64.wrap ((N : Int) * 10 + (D : Int)) = (M : Int) := by rw [IntWalk.i64_in _ (by omega)]; omega
    clear hstep hD hM hdB hget hB9 hst l9 hNl
    go_wp2
    exact ⟨⟨j + 1, by go_num, by omega, by rw [HS.out], trivial⟩, by simp [intOf]; omega⟩
   ·have HZ := Lib.hid (show amt R = N from by rw [amt_stop R j (by rw [HN.out]; omega), HN.out])
    have l2 : decide ((N : Int) < 1099511627776) = false := decide_eq_false (by omega)
    rw [HZ.out] at C2
    clear hst hNl
    go_wp2_with fail
    refine (C2.out _).mono ?_
    rintro e w' ⟨rfl, hb⟩
    go_wp2
    go_ret2
    exact ⟨rfl, hb⟩
  ·have HZ := Lib.hid (show amt R = N from by rw [← HN.out, List.take_of_length_le (by rw [HR.out]; omega)])
   have l2 : ¬ (j : Int) < (n : Int) := by omega
   rw [HZ.out] at C2
   clear hlt hNl
   go_wp2_with fail
   refine (C2.out _).mono ?_
   rintro e w' ⟨rfl, hb⟩
   go_wp2
   go_ret2
   exact ⟨rfl, hb⟩
set_option maxHeartbeats 2000000 in
theorem ytail_69_minus_0 (s G : ByteArray) (at' F : Nat) (E : Int) (w : World) (hs : s.size ≤ 140737488355328)  (h : at' < s.size) (hc : (s[at']'h).toNat = 69) (g : at' + 1 < s.size) (hB : (s[at' + 1]'g).toNat = 45)
  (C1 : Hid (∀ W, Cq 137 #[.string s, .int .i64 ((at' : Int) + 1 + 1)] (.int .i64 0) W))
  (C2 : Hid (∀ W, Ct 104 #[.string G, .int .i64 E] (.float .f64 F) W)) :
  Ct 138 #[.string s, .int .i64 (at' : Nat), .string G, .int .i64 E] (.tuple #[.int .i64 (at' : Nat), .float .f64 F]) w := by
 have h1 : (s.size : Int) ≤ 140737488355328 := by omega
 have a1 : (0 : Int) ≤ (at' : Int) := by omega
 have a2 : (at' : Int) < (s.size : Int) := by omega
 have e0 : ((s[at']'h).toNat : Int) = 69 := by rw [hc]; rfl
 have b1 : (0 : Int) ≤ (at' : Int) + 1 := by omega
 have b2 : (at' : Int) + 1 < (s.size : Int) := by omega
 have b3 : ((at' : Int) + 1).toNat = at' + 1 := by omega
 have e1 : ((s[at' + 1]'g).toNat : Int) = 45 := by rw [hB]; rfl
 clear hs hc hB
 go_enter Tryz.func138, Tryz.ntmps138
 go_wp2_with fail
 refine (C1.out _).mono ?_
 rintro e w' ⟨rfl, rfl⟩
 go_wp2_with fail
 refine (C2.out _).mono ?_
 rintro e w' ⟨rfl, hb⟩
 go_wp2
 go_ret2
 exact ⟨rfl, hb⟩
set_option maxHeartbeats 2000000 in
theorem ytail_69_minus_1 (s G : ByteArray) (at' F : Nat) (E : Int) (w : World) (hs : s.size ≤ 140737488355328) (hE1 : -281474976710656 ≤ E) (hE2 : E ≤ 281474976710656) (n : Nat) (R : List Nat) (h : at' < s.size) (hc : (s[at']'h).toNat = 69) (g : at' + 1 < s.size) (hB : (s[at' + 1]'g).toNat = 45) (hn0 : 0 < n) (hR : R.length = n) (hd : ∀ c ∈ R, dg10 c = true) (hRs : ∀ j, j < n → ∃ hj : at' + 2 + j < s.size, R[j]? = some (s[at' + 2 + j]'hj).toNat)
  (C1 : Hid (∀ W, Cq 137 #[.string s, .int .i64 ((at' : Int) + 1 + 1)] (.int .i64 (n : Nat)) W))
  (C2 : Hid (∀ W, Ct 104 #[.string G, .int .i64 (E + -(amt R : Nat))] (.float .f64 F) W)) :
  Ct 138 #[.string s, .int .i64 (at' : Nat), .string G, .int .i64 E] (.tuple #[.int .i64 ((at' : Int) + 1 + 1 + (n : Int)), .float .f64 F]) w := by
 have h1 : (s.size : Int) ≤ 140737488355328 := by omega
 have a1 : (0 : Int) ≤ (at' : Int) := by omega
 have a2 : (at' : Int) < (s.size : Int) := by omega
 have e0 : ((s[at']'h).toNat : Int) = 69 := by rw [hc]; rfl
 have b1 : (0 : Int) ≤ (at' : Int) + 1 := by omega
 have b2 : (at' : Int) + 1 < (s.size : Int) := by omega
 have b3 : ((at' : Int) + 1).toNat = at' + 1 := by omega
 have e1 : ((s[at' + 1]'g).toNat : Int) = 45 := by rw [hB]; rfl
 have hnl : n ≤ s.size := by
  obtain ⟨x, _⟩ := hRs (n - 1) (by omega)
  omega
 have n3 : (n : Int) ≤ (s.size : Int) := by omega
 have n4 : (0 : Int) < (n : Int) := by omega
 have HD := Lib.hid hd
 have HR := Lib.hid hR
 have HRS := Lib.hid hRs
 clear hd hR hRs hn0 hnl
 clear hs hc hB
 go_enter Tryz.func138, Tryz.ntmps138
 go_wp2_with fail
 refine (C1.out _).mono ?_
 rintro e w' ⟨rfl, rfl⟩
 go_wp2
 clear e0 e1 n4
 go_loopw [13, 14] (fun x i wr => ∃ j : Nat, i = .int .i64 j ∧ j ≤ n ∧ x = .int .i64 (amt (R.take j) : Nat) ∧ w = wr) (fun _ i _ => n - (intOf i).toNat)
 case atStart => exact ⟨0, rfl, Nat.zero_le _, rfl, rfl⟩
 case round =>
  obtain ⟨j, rfl, hj, rfl, rfl⟩ := hrel
  obtain ⟨N, hN⟩ : ∃ N, amt (R.take j) = N := ⟨_, rfl⟩
  have hNl : N < 10995116277760 := by rw [← hN]; exact amt_lt _ (fun c hc => HD.out c (List.mem_of_mem_take hc))
  have hNl2 : (N : Int) < 10995116277760 := by omega
  have HN := Lib.hid hN
  rw [hN]
  clear hN
  by_cases hlt : j < n
  ·have l1 : (j : Int) < (n : Int) := by omega
   by_cases hst : N < 1099511627776
   ·obtain ⟨hx, hget⟩ := HRS.out j hlt
    obtain ⟨B9, hB9⟩ : ∃ B9 : Nat, (s[at' + 2 + j]'hx).toNat = B9 := ⟨_, rfl⟩
    rw [hB9] at hget
    have hdB := dg10_iff.1 (HD.out B9 (List.mem_of_getElem? hget))
    have hstep : amt (R.take (j + 1)) = N * 10 + (B9 - 48) := by
     rw [List.take_add_one, hget]
     refine (amt_snoc _ _).trans ?_
     rw [HN.out]
     exact if_pos hst
    obtain ⟨D, hD⟩ : ∃ D : Nat, B9 - 48 = D := ⟨_, rfl⟩
    obtain ⟨M, hM⟩ : ∃ M : Nat, N * 10 + D = M := ⟨_, rfl⟩
    have HS := Lib.hid (show amt (R.take (j + 1)) = M from by rw [hstep, hD, hM])
    have l2 : (N : Int) < 1099511627776 := by omega
    have l3 : (0 : Int) ≤ (at' : Int) + 1 + 1 + (j : Int) := by omega
    have l4 : (at' : Int) + 1 + 1 + (j : Int) < (s.size : Int) := by omega
    have l5 : ((at' : Int) + 1 + 1 + (j : Int)).toNat = at' + 2 + j := by omega
    have l6 : ((s[at' + 2 + j]'hx).toNat : Int) = (B9 : Int) := by rw [hB9]
    have l7 : IntKind.u8.wrap ((B9 : Int) - 48) = (D : Int) := by rw [IntWalk.u8_in _ (by omega)]; omega
    have l8 : IntKind.i64.wrap (D : Int) = (D : Int) := IntWalk.i64_in _ (by omega)
    have l9 : (N : Int) * 10 + (D : Int) = (M : Int) := by omega
    have l10 : IntKind.i64.wrap ((N : Int) * 10) = (N : Int) * 10 := IntWalk.i64_in _ (by omega)
    have l11 : IntKind.i64.wrap ((N : Int) * 10 + (D : Int)) = (M : Int) := by rw [IntWalk.i64_in _ (by omega)]; omega
    clear hstep hD hM hdB hget hB9 hst l9 hNl
    go_wp2
    exact ⟨⟨j + 1, by go_num, by omega, by rw [HS.out], trivial⟩, by simp [intOf]; omega⟩
   ·have HZ := Lib.hid (show amt R = N from by rw [amt_stop R j (by rw [HN.out]; omega), HN.out])
    have l2 : decide ((N : Int) < 1099511627776) = false := decide_eq_false (by omega)
    rw [HZ.out] at C2
    clear hst hNl
    go_wp2_with fail
    refine (C2.out _).mono ?_
    rintro e w' ⟨rfl, hb⟩
    go_wp2
    go_ret2
    exact ⟨rfl, hb⟩
  ·have HZ := Lib.hid (show amt R = N from by rw [← HN.out, List.take_of_length_le (by rw [HR.out]; omega)])
   have l2 : ¬ (j : Int) < (n : Int) := by omega
   rw [HZ.out] at C2
   clear hlt hNl
   go_wp2_with fail
   refine (C2.out _).mono ?_
   rintro e w' ⟨rfl, hb⟩
   go_wp2
   go_ret2
   exact ⟨rfl, hb⟩
set_option maxHeartbeats 2000000 in
theorem ytail_69_plus_0 (s G : ByteArray) (at' F : Nat) (E : Int) (w : World) (hs : s.size ≤ 140737488355328)  (h : at' < s.size) (hc : (s[at']'h).toNat = 69) (g : at' + 1 < s.size) (hB : (s[at' + 1]'g).toNat = 43)
  (C1 : Hid (∀ W, Cq 137 #[.string s, .int .i64 ((at' : Int) + 1 + 1)] (.int .i64 0) W))
  (C2 : Hid (∀ W, Ct 104 #[.string G, .int .i64 E] (.float .f64 F) W)) :
  Ct 138 #[.string s, .int .i64 (at' : Nat), .string G, .int .i64 E] (.tuple #[.int .i64 (at' : Nat), .float .f64 F]) w := by
 have h1 : (s.size : Int) ≤ 140737488355328 := by omega
 have a1 : (0 : Int) ≤ (at' : Int) := by omega
 have a2 : (at' : Int) < (s.size : Int) := by omega
 have e0 : ((s[at']'h).toNat : Int) = 69 := by rw [hc]; rfl
 have b1 : (0 : Int) ≤ (at' : Int) + 1 := by omega
 have b2 : (at' : Int) + 1 < (s.size : Int) := by omega
 have b3 : ((at' : Int) + 1).toNat = at' + 1 := by omega
 have e1 : ((s[at' + 1]'g).toNat : Int) = 43 := by rw [hB]; rfl
 clear hs hc hB
 go_enter Tryz.func138, Tryz.ntmps138
 go_wp2_with fail
 refine (C1.out _).mono ?_
 rintro e w' ⟨rfl, rfl⟩
 go_wp2_with fail
 refine (C2.out _).mono ?_
 rintro e w' ⟨rfl, hb⟩
 go_wp2
 go_ret2
 exact ⟨rfl, hb⟩
set_option maxHeartbeats 2000000 in
theorem ytail_69_plus_1 (s G : ByteArray) (at' F : Nat) (E : Int) (w : World) (hs : s.size ≤ 140737488355328) (hE1 : -281474976710656 ≤ E) (hE2 : E ≤ 281474976710656) (n : Nat) (R : List Nat) (h : at' < s.size) (hc : (s[at']'h).toNat = 69) (g : at' + 1 < s.size) (hB : (s[at' + 1]'g).toNat = 43) (hn0 : 0 < n) (hR : R.length = n) (hd : ∀ c ∈ R, dg10 c = true) (hRs : ∀ j, j < n → ∃ hj : at' + 2 + j < s.size, R[j]? = some (s[at' + 2 + j]'hj).toNat)
  (C1 : Hid (∀ W, Cq 137 #[.string s, .int .i64 ((at' : Int) + 1 + 1)] (.int .i64 (n : Nat)) W))
  (C2 : Hid (∀ W, Ct 104 #[.string G, .int .i64 (E + (amt R : Nat))] (.float .f64 F) W)) :
  Ct 138 #[.string s, .int .i64 (at' : Nat), .string G, .int .i64 E] (.tuple #[.int .i64 ((at' : Int) + 1 + 1 + (n : Int)), .float .f64 F]) w := by
 have h1 : (s.size : Int) ≤ 140737488355328 := by omega
 have a1 : (0 : Int) ≤ (at' : Int) := by omega
 have a2 : (at' : Int) < (s.size : Int) := by omega
 have e0 : ((s[at']'h).toNat : Int) = 69 := by rw [hc]; rfl
 have b1 : (0 : Int) ≤ (at' : Int) + 1 := by omega
 have b2 : (at' : Int) + 1 < (s.size : Int) := by omega
 have b3 : ((at' : Int) + 1).toNat = at' + 1 := by omega
 have e1 : ((s[at' + 1]'g).toNat : Int) = 43 := by rw [hB]; rfl
 have hnl : n ≤ s.size := by
  obtain ⟨x, _⟩ := hRs (n - 1) (by omega)
  omega
 have n3 : (n : Int) ≤ (s.size : Int) := by omega
 have n4 : (0 : Int) < (n : Int) := by omega
 have HD := Lib.hid hd
 have HR := Lib.hid hR
 have HRS := Lib.hid hRs
 clear hd hR hRs hn0 hnl
 clear hs hc hB
 go_enter Tryz.func138, Tryz.ntmps138
 go_wp2_with fail
 refine (C1.out _).mono ?_
 rintro e w' ⟨rfl, rfl⟩
 go_wp2
 clear e0 e1 n4
 go_loopw [13, 14] (fun x i wr => ∃ j : Nat, i = .int .i64 j ∧ j ≤ n ∧ x = .int .i64 (amt (R.take j) : Nat) ∧ w = wr) (fun _ i _ => n - (intOf i).toNat)
 case atStart => exact ⟨0, rfl, Nat.zero_le _, rfl, rfl⟩
 case round =>
  obtain ⟨j, rfl, hj, rfl, rfl⟩ := hrel
  obtain ⟨N, hN⟩ : ∃ N, amt (R.take j) = N := ⟨_, rfl⟩
  have hNl : N < 10995116277760 := by rw [← hN]; exact amt_lt _ (fun c hc => HD.out c (List.mem_of_mem_take hc))
  have hNl2 : (N : Int) < 10995116277760 := by omega
  have HN := Lib.hid hN
  rw [hN]
  clear hN
  by_cases hlt : j < n
  ·have l1 : (j : Int) < (n : Int) := by omega
   by_cases hst : N < 1099511627776
   ·obtain ⟨hx, hget⟩ := HRS.out j hlt
    obtain ⟨B9, hB9⟩ : ∃ B9 : Nat, (s[at' + 2 + j]'hx).toNat = B9 := ⟨_, rfl⟩
    rw [hB9] at hget
    have hdB := dg10_iff.1 (HD.out B9 (List.mem_of_getElem? hget))
    have hstep : amt (R.take (j + 1)) = N * 10 + (B9 - 48) := by
     rw [List.take_add_one, hget]
     refine (amt_snoc _ _).trans ?_
     rw [HN.out]
     exact if_pos hst
    obtain ⟨D, hD⟩ : ∃ D : Nat, B9 - 48 = D := ⟨_, rfl⟩
    obtain ⟨M, hM⟩ : ∃ M : Nat, N * 10 + D = M := ⟨_, rfl⟩
    have HS := Lib.hid (show amt (R.take (j + 1)) = M from by rw [hstep, hD, hM])
    have l2 : (N : Int) < 1099511627776 := by omega
    have l3 : (0 : Int) ≤ (at' : Int) + 1 + 1 + (j : Int) := by omega
    have l4 : (at' : Int) + 1 + 1 + (j : Int) < (s.size : Int) := by omega
    have l5 : ((at' : Int) + 1 + 1 + (j : Int)).toNat = at' + 2 + j := by omega
    have l6 : ((s[at' + 2 + j]'hx).toNat : Int) = (B9 : Int) := by rw [hB9]
    have l7 : IntKind.u8.wrap ((B9 : Int) - 48) = (D : Int) := by rw [IntWalk.u8_in _ (by omega)]; omega
    have l8 : IntKind.i64.wrap (D : Int) = (D : Int) := IntWalk.i64_in _ (by omega)
    have l9 : (N : Int) * 10 + (D : Int) = (M : Int) := by omega
    have l10 : IntKind.i64.wrap ((N : Int) * 10) = (N : Int) * 10 := IntWalk.i64_in _ (by omega)
    have l11 : IntKind.i64.wrap ((N : Int) * 10 + (D : Int)) = (M : Int) := by rw [IntWalk.i64_in _ (by omega)]; omega
    clear hstep hD hM hdB hget hB9 hst l9 hNl
    go_wp2
    exact ⟨⟨j + 1, by go_num, by omega, by rw [HS.out], trivial⟩, by simp [intOf]; omega⟩
   ·have HZ := Lib.hid (show amt R = N from by rw [amt_stop R j (by rw [HN.out]; omega), HN.out])
    have l2 : decide ((N : Int) < 1099511627776) = false := decide_eq_false (by omega)
    rw [HZ.out] at C2
    clear hst hNl
    go_wp2_with fail
    refine (C2.out _).mono ?_
    rintro e w' ⟨rfl, hb⟩
    go_wp2
    go_ret2
    exact ⟨rfl, hb⟩
  ·have HZ := Lib.hid (show amt R = N from by rw [← HN.out, List.take_of_length_le (by rw [HR.out]; omega)])
   have l2 : ¬ (j : Int) < (n : Int) := by omega
   rw [HZ.out] at C2
   clear hlt hNl
   go_wp2_with fail
   refine (C2.out _).mono ?_
   rintro e w' ⟨rfl, hb⟩
   go_wp2
   go_ret2
   exact ⟨rfl, hb⟩

end Go.Proofs.YtfcpkdafkmohkaaGreatDoor
namespace Go.Proofs.YtfcpkdafkmohkaaGreatDoor
open Go.RowKit
theorem run_get (s : ByteArray) (K j : Nat) (h : j < (run10 ((bl s).drop K)).length) : ∃ hj : K + j < s.size, (run10 ((bl s).drop K))[j]? = some (s[K + j]'hj).toNat := by
 have h1 := run_len ((bl s).drop K)
 rw [List.length_drop, bl_size] at h1
 have hj : K + j < s.size := by omega
 refine ⟨hj, ?_⟩
 have h2 := congrArg (fun l : List Nat => l[j]?) (run_aft ((bl s).drop K))
 simp only [List.getElem?_append_left h, List.getElem?_drop] at h2
 rw [h2, bl_get s (K + j) hj]
theorem exp_zero {c : Nat} {r : List Nat} (h : run10 (unsg r) = []) : exR (c :: r) = c :: r ∧ exV (c :: r) = 0 := by
 have : expB (c :: r) = false := by
  unfold expB
  rw [List.tail_cons, h]
  simp
 unfold exR exV
 rw [this]
 exact ⟨rfl, rfl⟩
theorem exp_pos {c : Nat} {r : List Nat} (hc : c = 101 ∨ c = 69) (h : run10 (unsg r) ≠ []) : exR (c :: r) = aft10 (unsg r) ∧ exV (c :: r) = if sgnB r = true then -(amt (run10 (unsg r)) : Int) else (amt (run10 (unsg r)) : Int) := by
 have : expB (c :: r) = true := by
  unfold expB
  rw [List.tail_cons]
  cases hr : run10 (unsg r) with
  | nil => exact absurd hr h
  | cons a b => rcases hc with rfl | rfl <;> simp
 unfold exR exV
 rw [this]
 exact ⟨rfl, rfl⟩
theorem exp_other {c : Nat} {r : List Nat} (h1 : c ≠ 101) (h2 : c ≠ 69) : exR (c :: r) = c :: r ∧ exV (c :: r) = 0 := by
 have : expB (c :: r) = false := by
  unfold expB
  simp [h1, h2]
 unfold exR exV
 rw [this]
 exact ⟨rfl, rfl⟩
theorem drop_next {l : List Nat} {k c : Nat} {r : List Nat} (h : l.drop k = c :: r) : l.drop (k + 1) = r ∧ l[k]? = some c ∧ k < l.length := by
 have hk : k < l.length := by
  rcases Nat.lt_or_ge k l.length with h1 | h1
  ·exact h1
  ·rw [List.drop_of_length_le h1] at h
   cases h
 rw [drop_cons l k hk] at h
 injection h with h1 h2
 exact ⟨h2, by rw [List.getElem?_eq_getElem hk, h1], hk⟩
theorem byte_at {s : ByteArray} {k c : Nat} (h : (bl s)[k]? = some c) : ∃ hk : k < s.size, (s[k]'hk).toNat = c := by
 have hk : k < s.size := by
  rw [← bl_size s]
  exact (List.getElem?_eq_some_iff.1 h).1
 refine ⟨hk, ?_⟩
 rw [bl_get s k hk] at h
 exact Option.some.inj h
theorem yrun_one (s : ByteArray) (k : Nat) (w : World) (hs : s.size ≤ 140737488355328) (hk : k ≤ 140737488355320) : Cq 137 #[.string s, .int .i64 ((k : Int) + 1)] (.int .i64 ((run10 ((bl s).drop (k + 1))).length : Nat)) w := by
 have := yrun_any s (k + 1) w hs (by omega)
 rw [show ((k + 1 : Nat) : Int) = (k : Int) + 1 by omega] at this
 exact this
theorem yrun_two (s : ByteArray) (k : Nat) (w : World) (hs : s.size ≤ 140737488355328) (hk : k ≤ 140737488355320) : Cq 137 #[.string s, .int .i64 ((k : Int) + 1 + 1)] (.int .i64 ((run10 ((bl s).drop (k + 2))).length : Nat)) w := by
 have := yrun_any s (k + 2) w hs (by omega)
 rw [show ((k + 2 : Nat) : Int) = (k : Int) + 1 + 1 by omega] at this
 exact this
theorem ytail_e101 (s : ByteArray) (at' : Nat) (f r : List Nat) (E : Int) (w : World) (hs : s.size ≤ 140737488355320) (hd : ∀ c ∈ f, dg10 c = true) (hf : f.length ≤ 281474976710656) (hE1 : -281474976710656 ≤ E) (hE2 : E ≤ 281474976710656) (hT : (bl s).drop at' = 101 :: r) :
  Ct 138 #[.string s, .int .i64 (at' : Nat), .string (strOf f), .int .i64 E] (.tuple #[.int .i64 ((s.size - (exR (101 :: r)).length : Nat) : Nat), .float .f64 (decR (num 10 f) (E + exV (101 :: r)))]) w := by
 have hbl := bl_size s
 have hlen := congrArg List.length hT
 rw [List.length_drop, hbl, List.length_cons] at hlen
 obtain ⟨hr, hc, _⟩ := drop_next hT
 obtain ⟨h, hB⟩ := byte_at hc
 have hX := exV_le (101 :: r)
 have C2 := fun W => ydecimal_any f (E + exV (101 :: r)) W hd hf (by omega)
 cases r with
 | nil =>
  have g : at' + 1 = s.size := by
   rw [List.length_nil] at hlen
   omega
  have hdr := hr
  have hun : unsg ([]) = [] := rfl
  by_cases h0 : run10 ([]) = []
  ·obtain ⟨x1, x2⟩ := exp_zero (c := 101) (r := []) (by rw [hun]; exact h0)
   rw [x2, Int.add_zero] at C2
   rw [x1, x2, Int.add_zero, show s.size - (101 :: []).length = at' by rw [List.length_cons]; omega]
   exact ytail_101_none_0 (s := s) (G := strOf f) (at' := at') (E := E) (w := w) (hs := by omega) (h := h) (hc := hB) (g := g) (C1 := Lib.hid (fun W => by
    have := yrun_one s at' W (by omega) (by omega)
    rw [hdr, h0] at this
    exact this)) (C2 := Lib.hid C2)
  ·exact absurd rfl h0
 | cons d r2 =>
  rw [List.length_cons] at hlen
  obtain ⟨hr2, hc2, _⟩ := drop_next hr
  obtain ⟨g, hB2⟩ := byte_at hc2
  by_cases d1 : d = 45
  ·subst d1
   have hdr : (bl s).drop (at' + 2) = r2 := hr2
   have hsg : sgnB (45 :: r2) = true := rfl
   have hlc : (45 :: r2).length = r2.length + 1 := rfl
   have hun : unsg (45 :: r2) = r2 := rfl
   by_cases h0 : run10 r2 = []
   ·obtain ⟨x1, x2⟩ := exp_zero (c := 101) (r := 45 :: r2) (by rw [hun]; exact h0)
    rw [x2, Int.add_zero] at C2
    rw [x1, x2, Int.add_zero, show s.size - (101 :: 45 :: r2).length = at' by rw [List.length_cons]; omega]
    exact ytail_101_minus_0 (s := s) (G := strOf f) (at' := at') (E := E) (w := w) (hs := by omega) (h := h) (hc := hB) (g := g) (hB := hB2) (C1 := Lib.hid (fun W => by
     have := yrun_two s at' W (by omega) (by omega)
     rw [hdr, h0] at this
     exact this)) (C2 := Lib.hid C2)
   ·obtain ⟨x1, x2⟩ := exp_pos (c := 101) (r := 45 :: r2) (by omega) (by rw [hun]; exact h0)
    rw [hsg] at x2
    rw [if_pos rfl] at x2
    rw [hun] at x1 x2
    rw [x2] at C2
    have hn := run_len r2
    have hn0 := List.length_pos_iff.2 h0
    rw [x1, x2, show ((s.size - (aft10 r2).length : Nat) : Int) = (at' : Int) + 1 + 1 + ((run10 r2).length : Nat) by omega]
    exact ytail_101_minus_1 (s := s) (G := strOf f) (at' := at') (E := E) (w := w) (n := (run10 r2).length) (R := run10 r2) (hs := by omega) (hE1 := hE1) (hE2 := hE2) (h := h) (hc := hB) (g := g) (hB := hB2) (hn0 := hn0) (hR := rfl) (hd := run10_all _) (hRs := fun j hj => by
     have := run_get s (at' + 2) j (by rw [hdr]; exact hj)
     rw [hdr] at this
     exact this) (C1 := Lib.hid (fun W => by
     have := yrun_two s at' W (by omega) (by omega)
     rw [hdr] at this
     exact this)) (C2 := Lib.hid C2)
  ·by_cases d2 : d = 43
   ·subst d2
    have hdr : (bl s).drop (at' + 2) = r2 := hr2
    have hsg : sgnB (43 :: r2) = false := rfl
    have hlc : (43 :: r2).length = r2.length + 1 := rfl
    have hun : unsg (43 :: r2) = r2 := rfl
    by_cases h0 : run10 r2 = []
    ·obtain ⟨x1, x2⟩ := exp_zero (c := 101) (r := 43 :: r2) (by rw [hun]; exact h0)
     rw [x2, Int.add_zero] at C2
     rw [x1, x2, Int.add_zero, show s.size - (101 :: 43 :: r2).length = at' by rw [List.length_cons]; omega]
     exact ytail_101_plus_0 (s := s) (G := strOf f) (at' := at') (E := E) (w := w) (hs := by omega) (h := h) (hc := hB) (g := g) (hB := hB2) (C1 := Lib.hid (fun W => by
      have := yrun_two s at' W (by omega) (by omega)
      rw [hdr, h0] at this
      exact this)) (C2 := Lib.hid C2)
    ·obtain ⟨x1, x2⟩ := exp_pos (c := 101) (r := 43 :: r2) (by omega) (by rw [hun]; exact h0)
     rw [hsg] at x2
     rw [if_neg (by simp)] at x2
     rw [hun] at x1 x2
     rw [x2] at C2
     have hn := run_len r2
     have hn0 := List.length_pos_iff.2 h0
     rw [x1, x2, show ((s.size - (aft10 r2).length : Nat) : Int) = (at' : Int) + 1 + 1 + ((run10 r2).length : Nat) by omega]
     exact ytail_101_plus_1 (s := s) (G := strOf f) (at' := at') (E := E) (w := w) (n := (run10 r2).length) (R := run10 r2) (hs := by omega) (hE1 := hE1) (hE2 := hE2) (h := h) (hc := hB) (g := g) (hB := hB2) (hn0 := hn0) (hR := rfl) (hd := run10_all _) (hRs := fun j hj => by
      have := run_get s (at' + 2) j (by rw [hdr]; exact hj)
      rw [hdr] at this
      exact this) (C1 := Lib.hid (fun W => by
      have := yrun_two s at' W (by omega) (by omega)
      rw [hdr] at this
      exact this)) (C2 := Lib.hid C2)
   ·have hdr := hr
    have hsg : sgnB (d :: r2) = false := by unfold sgnB; rw [List.head?_cons, beq_eq_false_iff_ne]; exact fun e => d1 (Option.some.inj e)
    have hlc : (d :: r2).length = r2.length + 1 := rfl
    have hun : unsg (d :: r2) = d :: r2 := by unfold unsg; rw [if_neg (by simp [d1, d2])]
    by_cases h0 : run10 (d :: r2) = []
    ·obtain ⟨x1, x2⟩ := exp_zero (c := 101) (r := d :: r2) (by rw [hun]; exact h0)
     rw [x2, Int.add_zero] at C2
     rw [x1, x2, Int.add_zero, show s.size - (101 :: d :: r2).length = at' by rw [List.length_cons]; omega]
     exact ytail_101_plain_0 (s := s) (G := strOf f) (at' := at') (E := E) (w := w) (hs := by omega) (h := h) (hc := hB) (B := d) (g := g) (hB := hB2) (n1 := d1) (n2 := d2) (C1 := Lib.hid (fun W => by
      have := yrun_one s at' W (by omega) (by omega)
      rw [hdr, h0] at this
      exact this)) (C2 := Lib.hid C2)
    ·obtain ⟨x1, x2⟩ := exp_pos (c := 101) (r := d :: r2) (by omega) (by rw [hun]; exact h0)
     rw [hsg] at x2
     rw [if_neg (by simp)] at x2
     rw [hun] at x1 x2
     rw [x2] at C2
     have hn := run_len (d :: r2)
     have hn0 := List.length_pos_iff.2 h0
     rw [x1, x2, show ((s.size - (aft10 (d :: r2)).length : Nat) : Int) = (at' : Int) + 1 + ((run10 (d :: r2)).length : Nat) by omega]
     exact ytail_101_plain_1 (s := s) (G := strOf f) (at' := at') (E := E) (w := w) (n := (run10 (d :: r2)).length) (R := run10 (d :: r2)) (hs := by omega) (hE1 := hE1) (hE2 := hE2) (h := h) (hc := hB) (B := d) (g := g) (hB := hB2) (n1 := d1) (n2 := d2) (hn0 := hn0) (hR := rfl) (hd := run10_all _) (hRs := fun j hj => by
      have := run_get s (at' + 1) j (by rw [hdr]; exact hj)
      rw [hdr] at this
      exact this) (C1 := Lib.hid (fun W => by
      have := yrun_one s at' W (by omega) (by omega)
      rw [hdr] at this
      exact this)) (C2 := Lib.hid C2)
theorem ytail_e69 (s : ByteArray) (at' : Nat) (f r : List Nat) (E : Int) (w : World) (hs : s.size ≤ 140737488355320) (hd : ∀ c ∈ f, dg10 c = true) (hf : f.length ≤ 281474976710656) (hE1 : -281474976710656 ≤ E) (hE2 : E ≤ 281474976710656) (hT : (bl s).drop at' = 69 :: r) :
  Ct 138 #[.string s, .int .i64 (at' : Nat), .string (strOf f), .int .i64 E] (.tuple #[.int .i64 ((s.size - (exR (69 :: r)).length : Nat) : Nat), .float .f64 (decR (num 10 f) (E + exV (69 :: r)))]) w := by
 have hbl := bl_size s
 have hlen := congrArg List.length hT
 rw [List.length_drop, hbl, List.length_cons] at hlen
 obtain ⟨hr, hc, _⟩ := drop_next hT
 obtain ⟨h, hB⟩ := byte_at hc
 have hX := exV_le (69 :: r)
 have C2 := fun W => ydecimal_any f (E + exV (69 :: r)) W hd hf (by omega)
 cases r with
 | nil =>
  have g : at' + 1 = s.size := by
   rw [List.length_nil] at hlen
   omega
  have hdr := hr
  have hun : unsg ([]) = [] := rfl
  by_cases h0 : run10 ([]) = []
  ·obtain ⟨x1, x2⟩ := exp_zero (c := 69) (r := []) (by rw [hun]; exact h0)
   rw [x2, Int.add_zero] at C2
   rw [x1, x2, Int.add_zero, show s.size - (69 :: []).length = at' by rw [List.length_cons]; omega]
   exact ytail_69_none_0 (s := s) (G := strOf f) (at' := at') (E := E) (w := w) (hs := by omega) (h := h) (hc := hB) (g := g) (C1 := Lib.hid (fun W => by
    have := yrun_one s at' W (by omega) (by omega)
    rw [hdr, h0] at this
    exact this)) (C2 := Lib.hid C2)
  ·exact absurd rfl h0
 | cons d r2 =>
  rw [List.length_cons] at hlen
  obtain ⟨hr2, hc2, _⟩ := drop_next hr
  obtain ⟨g, hB2⟩ := byte_at hc2
  by_cases d1 : d = 45
  ·subst d1
   have hdr : (bl s).drop (at' + 2) = r2 := hr2
   have hsg : sgnB (45 :: r2) = true := rfl
   have hlc : (45 :: r2).length = r2.length + 1 := rfl
   have hun : unsg (45 :: r2) = r2 := rfl
   by_cases h0 : run10 r2 = []
   ·obtain ⟨x1, x2⟩ := exp_zero (c := 69) (r := 45 :: r2) (by rw [hun]; exact h0)
    rw [x2, Int.add_zero] at C2
    rw [x1, x2, Int.add_zero, show s.size - (69 :: 45 :: r2).length = at' by rw [List.length_cons]; omega]
    exact ytail_69_minus_0 (s := s) (G := strOf f) (at' := at') (E := E) (w := w) (hs := by omega) (h := h) (hc := hB) (g := g) (hB := hB2) (C1 := Lib.hid (fun W => by
     have := yrun_two s at' W (by omega) (by omega)
     rw [hdr, h0] at this
     exact this)) (C2 := Lib.hid C2)
   ·obtain ⟨x1, x2⟩ := exp_pos (c := 69) (r := 45 :: r2) (by omega) (by rw [hun]; exact h0)
    rw [hsg] at x2
    rw [if_pos rfl] at x2
    rw [hun] at x1 x2
    rw [x2] at C2
    have hn := run_len r2
    have hn0 := List.length_pos_iff.2 h0
    rw [x1, x2, show ((s.size - (aft10 r2).length : Nat) : Int) = (at' : Int) + 1 + 1 + ((run10 r2).length : Nat) by omega]
    exact ytail_69_minus_1 (s := s) (G := strOf f) (at' := at') (E := E) (w := w) (n := (run10 r2).length) (R := run10 r2) (hs := by omega) (hE1 := hE1) (hE2 := hE2) (h := h) (hc := hB) (g := g) (hB := hB2) (hn0 := hn0) (hR := rfl) (hd := run10_all _) (hRs := fun j hj => by
     have := run_get s (at' + 2) j (by rw [hdr]; exact hj)
     rw [hdr] at this
     exact this) (C1 := Lib.hid (fun W => by
     have := yrun_two s at' W (by omega) (by omega)
     rw [hdr] at this
     exact this)) (C2 := Lib.hid C2)
  ·by_cases d2 : d = 43
   ·subst d2
    have hdr : (bl s).drop (at' + 2) = r2 := hr2
    have hsg : sgnB (43 :: r2) = false := rfl
    have hlc : (43 :: r2).length = r2.length + 1 := rfl
    have hun : unsg (43 :: r2) = r2 := rfl
    by_cases h0 : run10 r2 = []
    ·obtain ⟨x1, x2⟩ := exp_zero (c := 69) (r := 43 :: r2) (by rw [hun]; exact h0)
     rw [x2, Int.add_zero] at C2
     rw [x1, x2, Int.add_zero, show s.size - (69 :: 43 :: r2).length = at' by rw [List.length_cons]; omega]
     exact ytail_69_plus_0 (s := s) (G := strOf f) (at' := at') (E := E) (w := w) (hs := by omega) (h := h) (hc := hB) (g := g) (hB := hB2) (C1 := Lib.hid (fun W => by
      have := yrun_two s at' W (by omega) (by omega)
      rw [hdr, h0] at this
      exact this)) (C2 := Lib.hid C2)
    ·obtain ⟨x1, x2⟩ := exp_pos (c := 69) (r := 43 :: r2) (by omega) (by rw [hun]; exact h0)
     rw [hsg] at x2
     rw [if_neg (by simp)] at x2
     rw [hun] at x1 x2
     rw [x2] at C2
     have hn := run_len r2
     have hn0 := List.length_pos_iff.2 h0
     rw [x1, x2, show ((s.size - (aft10 r2).length : Nat) : Int) = (at' : Int) + 1 + 1 + ((run10 r2).length : Nat) by omega]
     exact ytail_69_plus_1 (s := s) (G := strOf f) (at' := at') (E := E) (w := w) (n := (run10 r2).length) (R := run10 r2) (hs := by omega) (hE1 := hE1) (hE2 := hE2) (h := h) (hc := hB) (g := g) (hB := hB2) (hn0 := hn0) (hR := rfl) (hd := run10_all _) (hRs := fun j hj => by
      have := run_get s (at' + 2) j (by rw [hdr]; exact hj)
      rw [hdr] at this
      exact this) (C1 := Lib.hid (fun W => by
      have := yrun_two s at' W (by omega) (by omega)
      rw [hdr] at this
      exact this)) (C2 := Lib.hid C2)
   ·have hdr := hr
    have hsg : sgnB (d :: r2) = false := by unfold sgnB; rw [List.head?_cons, beq_eq_false_iff_ne]; exact fun e => d1 (Option.some.inj e)
    have hlc : (d :: r2).length = r2.length + 1 := rfl
    have hun : unsg (d :: r2) = d :: r2 := by unfold unsg; rw [if_neg (by simp [d1, d2])]
    by_cases h0 : run10 (d :: r2) = []
    ·obtain ⟨x1, x2⟩ := exp_zero (c := 69) (r := d :: r2) (by rw [hun]; exact h0)
     rw [x2, Int.add_zero] at C2
     rw [x1, x2, Int.add_zero, show s.size - (69 :: d :: r2).length = at' by rw [List.length_cons]; omega]
     exact ytail_69_plain_0 (s := s) (G := strOf f) (at' := at') (E := E) (w := w) (hs := by omega) (h := h) (hc := hB) (B := d) (g := g) (hB := hB2) (n1 := d1) (n2 := d2) (C1 := Lib.hid (fun W => by
      have := yrun_one s at' W (by omega) (by omega)
      rw [hdr, h0] at this
      exact this)) (C2 := Lib.hid C2)
    ·obtain ⟨x1, x2⟩ := exp_pos (c := 69) (r := d :: r2) (by omega) (by rw [hun]; exact h0)
     rw [hsg] at x2
     rw [if_neg (by simp)] at x2
     rw [hun] at x1 x2
     rw [x2] at C2
     have hn := run_len (d :: r2)
     have hn0 := List.length_pos_iff.2 h0
     rw [x1, x2, show ((s.size - (aft10 (d :: r2)).length : Nat) : Int) = (at' : Int) + 1 + ((run10 (d :: r2)).length : Nat) by omega]
     exact ytail_69_plain_1 (s := s) (G := strOf f) (at' := at') (E := E) (w := w) (n := (run10 (d :: r2)).length) (R := run10 (d :: r2)) (hs := by omega) (hE1 := hE1) (hE2 := hE2) (h := h) (hc := hB) (B := d) (g := g) (hB := hB2) (n1 := d1) (n2 := d2) (hn0 := hn0) (hR := rfl) (hd := run10_all _) (hRs := fun j hj => by
      have := run_get s (at' + 1) j (by rw [hdr]; exact hj)
      rw [hdr] at this
      exact this) (C1 := Lib.hid (fun W => by
      have := yrun_one s at' W (by omega) (by omega)
      rw [hdr] at this
      exact this)) (C2 := Lib.hid C2)
theorem ytail_any (s : ByteArray) (at' : Nat) (f : List Nat) (E : Int) (w : World) (hs : s.size ≤ 140737488355320) (ha : at' ≤ s.size) (hd : ∀ c ∈ f, dg10 c = true) (hf : f.length ≤ 281474976710656) (hE1 : -281474976710656 ≤ E) (hE2 : E ≤ 281474976710656) :
  Ct 138 #[.string s, .int .i64 (at' : Nat), .string (strOf f), .int .i64 E] (.tuple #[.int .i64 ((s.size - (exR ((bl s).drop at')).length : Nat) : Nat), .float .f64 (decR (num 10 f) (E + exV ((bl s).drop at')))]) w := by
 have hbl := bl_size s
 obtain ⟨T, hT⟩ : ∃ T, (bl s).drop at' = T := ⟨_, rfl⟩
 have hlen := congrArg List.length hT
 rw [List.length_drop, hbl] at hlen
 rw [hT]
 cases T with
 | nil =>
  rw [List.length_nil] at hlen
  have e1 : exV [] = 0 := rfl
  have e2 : exR [] = [] := rfl
  rw [e1, e2, List.length_nil, Int.add_zero, show s.size - 0 = at' by omega]
  exact ytail_end (s := s) (G := strOf f) (at' := at') (E := E) (w := w) (hs := by omega) (ha := by omega) (C2 := Lib.hid (fun W => ydecimal_any f E W hd hf (by omega)))
 | cons c r =>
  by_cases h1 : c = 101
  ·subst h1
   exact ytail_e101 s at' f r E w hs hd hf hE1 hE2 hT
  ·by_cases h2 : c = 69
   ·subst h2
    exact ytail_e69 s at' f r E w hs hd hf hE1 hE2 hT
   ·obtain ⟨x1, x2⟩ := exp_other (r := r) h1 h2
    obtain ⟨_, hc, _⟩ := drop_next hT
    obtain ⟨h, hB⟩ := byte_at hc
    rw [List.length_cons] at hlen
    rw [x1, x2, Int.add_zero, show s.size - (c :: r).length = at' by rw [List.length_cons]; omega]
    exact ytail_other (s := s) (G := strOf f) (at' := at') (E := E) (w := w) (B := c) (hs := by omega) (h := h) (hB := hB) (n1 := h1) (n2 := h2) (C2 := Lib.hid (fun W => ydecimal_any f E W hd hf (by omega)))

end Go.Proofs.YtfcpkdafkmohkaaGreatDoor
