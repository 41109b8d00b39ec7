/-
  Merged texts (Tj, Tk, Tl, Tm, Tn, Tp, Tr, Ts, Tq, Nz, Ni, Mb, No, Ng, Np, Nc, Nd, Nq, Nm, Nn, Nr, Ne, Ns, Nt, Nu, Lf).
-/
import Derived.Test.YtjmplgbhjpldbaaGreatDoorQkc
import Derived.Shelf.Strings.SlTrimAscii
import Derived.Shelf.Strings.Builder1
import Derived.Shelf.Strings.Builder2
import Derived.Shelf.Strings.OnBuilder
import Derived.Shelf.Strings.Trim
import Derived.Shelf.Small.Utf8
import Derived.Shelf.Small.Bits
import Derived.Shelf.Small.Strs
import Derived.Shelf.Small.Wraps
import Derived.Shelf.Strings.BuilderF
import Derived.Shelf.Strings.BuilderK
import Derived.Shelf.Strings.BuilderRune
import Derived.Shelf.Utf8.AppendRune
import Derived.Shelf.Strconv.Itoa0
import Derived.Shelf.Strings.Search1
import Derived.Shelf.Strings.Prefix
import Derived.Shelf.Unicode.Latin
import Derived.Shelf.Strings.Runes
import Derived.Shelf.Strings.AsciiSet
import Derived.Shelf.Unicode.DecodeSlow
import Derived.Shelf.Unicode.CaseLookup
import Derived.Shelf.Unicode.CaseConvert
import Derived.Shelf.Unicode.CaseTo
import Derived.Shelf.Unicode.CaseLaid
import Derived.Test.YtjmplgbhjpldbaaGreatDoorProg
import GoSem.Core.Utf8
import Derived.WalkKit
import Derived.WalkSpells
import Derived.WalkLawsBesides
import Derived.Deep.QuietTactic
import Derived.BigQuiet
import Derived.Lib.Hide
import Derived.Deep.OwnRows
import Derived.Laws.CopyOwn
import Derived.Deep.AppendLies
import Derived.Lib.BitFns
import Derived.Lib.Strings
import Derived.Laws.BitsAllLaws
import Derived.Lib.LaidTab
import Ieee.Arith
import GoSem.Core.Float
import Derived.Laws.BytesString
import Derived.Laws.Cells
import Derived.Deep.RegionHeld3
import Derived.Laws.Closers25b
import Derived.ProofKit
import Derived.OpenShut
import Derived.SizedLaws
import Derived.Deep.RegionWith
import Derived.BigRegion
import Derived.Laws.FloatArith
import Derived.Laws.Externs
import Derived.Lib.ItoaNum
import Derived.Deep.DeepCutAuto
import Derived.Deep.WholeRow
import Derived.Laws.Tables
import Derived.Laws.EntriesVeiled
import Derived.Lib.SlTrimSet
import Derived.Lib.Case
import Derived.Lib.AppendIntMem
import Derived.Test.YtjmplgbhjpldbaaGreatDoorRows
import Derived.OwnWalk
import Derived.Lib.RuneBytes
namespace Go.Proofs.YtjmplgbhjpldbaaGreatDoor
open Go.RowKit
theorem trimL48 (s : ByteArray) (w : World) : Ct 117 #[.string s, .string ⟨#[48]⟩] (.string (strOf (ldz (bl s)))) w := by
 have h := Tryz.strings_TrimLeft_laid s ⟨#[48]⟩ w (by decide) (fun j b hb => by
  have h1 : b ∈ ([48] : List UInt8) := List.mem_of_getElem? hb
  simp at h1
  rw [h1]
  decide)
 rw [show (⟨#[48]⟩ : ByteArray).data.toList = [48] from rfl, tl_48] at h
 exact h
theorem trimR48 (s : ByteArray) (w : World) (hs : s.size ≤ 9223372036854775807) : Ct 118 #[.string s, .string ⟨#[48]⟩] (.string (strOf (trz (bl s)))) w := by
 have h := Tryz.strings_TrimRight_laid s ⟨#[48]⟩ w hs (by decide) (fun j b hb => by
  have h1 : b ∈ ([48] : List UInt8) := List.mem_of_getElem? hb
  simp at h1
  rw [h1]
  decide)
 rw [show (⟨#[48]⟩ : ByteArray).data.toList = [48] from rfl, tr_48] at h
 exact h
theorem btn_bl (s : ByteArray) (i : Nat) (h : i < s.size) : btn s i = (bl s).getD i 0 := by
 rw [List.getD_eq_getElem?_getD, bl_get s i h]
 exact (btn_eq s i h).symm
theorem sv_num (r : Nat) (s : ByteArray) : sv r s = num r (bl s) := by
 unfold sv num
 rw [bl_size]
 exact pv_congr (fun i hi => by rw [btn_bl s i hi])
theorem adB_all {r : Nat} {s : ByteArray} (h0 : bl s ≠ []) (h : ∀ c ∈ bl s, dgt c < r) : adB r s = true := by
 rw [adB_yes (fun i hi => by
  rw [btn_bl s i hi, List.getD_eq_getElem?_getD, List.getElem?_eq_getElem (by rw [bl_size]; exact hi)]
  exact h _ (List.getElem_mem _))]
 have : 0 < (bl s).length := List.length_pos_iff.2 h0
 rw [bl_size] at this
 exact decide_eq_true this
set_option maxRecDepth 100000 in
set_option maxHeartbeats 1000000 in
theorem tfloat_none (s1 s2 g h : ByteArray) (X y P : Int) (w : World) (hs1 : s1.size + s2.size ≤ 4611686018427387903)
  (C1 : Hid (∀ W, Ct 117 #[.string (s1 ++ s2), .string ⟨#[48]⟩] (.string g) W))
  (C2 : Hid (∀ W, Ct 118 #[.string g, .string ⟨#[48]⟩] (.string h) W))
  (k1 : IntKind.i64.wrap ((g.size : Int) - (s2.size : Int)) = y) (k2 : IntKind.i64.wrap (y + X) = P)
  (t1 : h.toList.isEmpty = true) :
  Ct 101 #[.agg #[.string s1, .string s2, .int .i64 X]] (.float .f64 0) w := by
 have hs2 : ¬ 9223372036854775807 < s1.size + s2.size := by omega
 have R0 := Lib.hid (show Rc (w.alloc (.cells #[.string s1, .string s2, .int .i64 X] 97)) w.heap.size (.string s1) (.string s2) (.int .i64 X) from heap_alloc_last w _)
 have B0 := Lib.hid (show Below w.heap.size w (w.alloc (.cells #[.string s1, .string s2, .int .i64 X] 97)) from (Below.refl _ _).alloc (Nat.le_refl _) _)
 have S0 := Lib.hid (show w.heap.size < (w.alloc (.cells #[.string s1, .string s2, .int .i64 X] 97)).heap.size by simp)
 clear hs1
 go_enter Tryz.func101, Tryz.ntmps101
 go_wp2_with fail
 refine (C1.out _).mono ?_
 rintro e w1 ⟨rfl, b1⟩
 have R1 := Lib.hid (R0.out.below b1 S0.out)
 have B1 := Lib.hid (below_le B0.out b1)
 clear b1
 obtain ⟨c0, c1, c2, _⟩ := R1.out.cells
 go_wp2_with fail
 refine (C2.out _).mono ?_
 rintro e w2 ⟨rfl, b2⟩
 have B2 := Lib.hid (below_le B1.out b2)
 clear b2
 go_wp2
 go_ret
 exact ⟨rfl, B2.out⟩
set_option maxRecDepth 100000 in
set_option maxHeartbeats 1000000 in
theorem tfloat_low (s1 s2 g h : ByteArray) (X y P : Int) (w : World) (hs1 : s1.size + s2.size ≤ 4611686018427387903)
  (C1 : Hid (∀ W, Ct 117 #[.string (s1 ++ s2), .string ⟨#[48]⟩] (.string g) W))
  (C2 : Hid (∀ W, Ct 118 #[.string g, .string ⟨#[48]⟩] (.string h) W))
  (k1 : IntKind.i64.wrap ((g.size : Int) - (s2.size : Int)) = y) (k2 : IntKind.i64.wrap (y + X) = P)
  (t1 : h.toList.isEmpty = false) (t2 : decide (P < -323) = true) :
  Ct 101 #[.agg #[.string s1, .string s2, .int .i64 X]] (.float .f64 0) w := by
 have hs2 : ¬ 9223372036854775807 < s1.size + s2.size := by omega
 have R0 := Lib.hid (show Rc (w.alloc (.cells #[.string s1, .string s2, .int .i64 X] 97)) w.heap.size (.string s1) (.string s2) (.int .i64 X) from heap_alloc_last w _)
 have B0 := Lib.hid (show Below w.heap.size w (w.alloc (.cells #[.string s1, .string s2, .int .i64 X] 97)) from (Below.refl _ _).alloc (Nat.le_refl _) _)
 have S0 := Lib.hid (show w.heap.size < (w.alloc (.cells #[.string s1, .string s2, .int .i64 X] 97)).heap.size by simp)
 clear hs1
 go_enter Tryz.func101, Tryz.ntmps101
 go_wp2_with fail
 refine (C1.out _).mono ?_
 rintro e w1 ⟨rfl, b1⟩
 have R1 := Lib.hid (R0.out.below b1 S0.out)
 have B1 := Lib.hid (below_le B0.out b1)
 clear b1
 obtain ⟨c0, c1, c2, _⟩ := R1.out.cells
 go_wp2_with fail
 refine (C2.out _).mono ?_
 rintro e w2 ⟨rfl, b2⟩
 have B2 := Lib.hid (below_le B1.out b2)
 clear b2
 go_wp2
 go_ret
 exact ⟨rfl, B2.out⟩
set_option maxRecDepth 100000 in
set_option maxHeartbeats 1000000 in
theorem tfloat_high (s1 s2 g h : ByteArray) (X y P : Int) (w : World) (hs1 : s1.size + s2.size ≤ 4611686018427387903)
  (C1 : Hid (∀ W, Ct 117 #[.string (s1 ++ s2), .string ⟨#[48]⟩] (.string g) W))
  (C2 : Hid (∀ W, Ct 118 #[.string g, .string ⟨#[48]⟩] (.string h) W))
  (k1 : IntKind.i64.wrap ((g.size : Int) - (s2.size : Int)) = y) (k2 : IntKind.i64.wrap (y + X) = P)
  (t1 : h.toList.isEmpty = false) (t2 : decide (P < -323) = false) (t3 : decide (309 < P) = true) :
  Ct 101 #[.agg #[.string s1, .string s2, .int .i64 X]] (.float .f64 9218868437227405312) w := by
 have hs2 : ¬ 9223372036854775807 < s1.size + s2.size := by omega
 have R0 := Lib.hid (show Rc (w.alloc (.cells #[.string s1, .string s2, .int .i64 X] 97)) w.heap.size (.string s1) (.string s2) (.int .i64 X) from heap_alloc_last w _)
 have B0 := Lib.hid (show Below w.heap.size w (w.alloc (.cells #[.string s1, .string s2, .int .i64 X] 97)) from (Below.refl _ _).alloc (Nat.le_refl _) _)
 have S0 := Lib.hid (show w.heap.size < (w.alloc (.cells #[.string s1, .string s2, .int .i64 X] 97)).heap.size by simp)
 clear hs1
 go_enter Tryz.func101, Tryz.ntmps101
 go_wp2_with fail
 refine (C1.out _).mono ?_
 rintro e w1 ⟨rfl, b1⟩
 have R1 := Lib.hid (R0.out.below b1 S0.out)
 have B1 := Lib.hid (below_le B0.out b1)
 clear b1
 obtain ⟨c0, c1, c2, _⟩ := R1.out.cells
 go_wp2_with fail
 refine (C2.out _).mono ?_
 rintro e w2 ⟨rfl, b2⟩
 have B2 := Lib.hid (below_le B1.out b2)
 clear b2
 have C3 := Lib.hid (fun W => inf1_any W)
 go_wp2_with fail
 refine (C3.out _).mono ?_
 rintro e w' ⟨rfl, rfl⟩
 go_wp2
 go_ret
 exact ⟨rfl, B2.out⟩
set_option maxRecDepth 100000 in
set_option maxHeartbeats 1000000 in
theorem tfloat_short (s1 s2 g h : ByteArray) (X y P : Int) (Z : Int) (m F : Nat) (w : World) (hs1 : s1.size + s2.size ≤ 4611686018427387903)
  (C1 : Hid (∀ W, Ct 117 #[.string (s1 ++ s2), .string ⟨#[48]⟩] (.string g) W))
  (C2 : Hid (∀ W, Ct 118 #[.string g, .string ⟨#[48]⟩] (.string h) W))
  (k1 : IntKind.i64.wrap ((g.size : Int) - (s2.size : Int)) = y) (k2 : IntKind.i64.wrap (y + X) = P)
  (t1 : h.toList.isEmpty = false) (t2 : decide (P < -323) = false) (t3 : decide (309 < P) = false) (t4 : decide (800 < (h.size : Int)) = false)
  (k3 : IntKind.i64.wrap (P - (h.size : Int)) = Z)
  (C3 : Hid (∀ W, Cp 120 #[.string h, .int .i64 10] W (NOk m W)))
  (C4 : Hid (∀ W A n c, NV W A n c m → Ct 121 #[.slice A n c, .int .i64 Z] (.float .f64 F) W)) :
  Ct 101 #[.agg #[.string s1, .string s2, .int .i64 X]] (.float .f64 F) w := by
 have hs2 : ¬ 9223372036854775807 < s1.size + s2.size := by omega
 have R0 := Lib.hid (show Rc (w.alloc (.cells #[.string s1, .string s2, .int .i64 X] 97)) w.heap.size (.string s1) (.string s2) (.int .i64 X) from heap_alloc_last w _)
 have B0 := Lib.hid (show Below w.heap.size w (w.alloc (.cells #[.string s1, .string s2, .int .i64 X] 97)) from (Below.refl _ _).alloc (Nat.le_refl _) _)
 have S0 := Lib.hid (show w.heap.size < (w.alloc (.cells #[.string s1, .string s2, .int .i64 X] 97)).heap.size by simp)
 clear hs1
 go_enter Tryz.func101, Tryz.ntmps101
 go_wp2_with fail
 refine (C1.out _).mono ?_
 rintro e w1 ⟨rfl, b1⟩
 have R1 := Lib.hid (R0.out.below b1 S0.out)
 have B1 := Lib.hid (below_le B0.out b1)
 clear b1
 obtain ⟨c0, c1, c2, _⟩ := R1.out.cells
 go_wp2_with fail
 refine (C2.out _).mono ?_
 rintro e w2 ⟨rfl, b2⟩
 have B2 := Lib.hid (below_le B1.out b2)
 clear b2
 go_wp2_with fail
 refine (C3.out _).mono ?_
 rintro e w3 ⟨A, n, c, rfl, g3, b3⟩
 have G3 := Lib.hid g3
 have B3 := Lib.hid (below_le B2.out b3)
 clear g3 b3
 go_wp2_with fail
 refine (C4.out _ _ _ _ G3.out).mono ?_
 rintro e w4 ⟨rfl, b4⟩
 have B4 := Lib.hid (below_le B3.out b4)
 clear b4
 go_wp2
 go_ret
 exact ⟨rfl, B4.out⟩
set_option maxRecDepth 100000 in
set_option maxHeartbeats 1000000 in
theorem tfloat_long (s1 s2 g h : ByteArray) (X y P : Int) (Z : Int) (m F : Nat) (w : World) (hs1 : s1.size + s2.size ≤ 4611686018427387903)
  (C1 : Hid (∀ W, Ct 117 #[.string (s1 ++ s2), .string ⟨#[48]⟩] (.string g) W))
  (C2 : Hid (∀ W, Ct 118 #[.string g, .string ⟨#[48]⟩] (.string h) W))
  (k1 : IntKind.i64.wrap ((g.size : Int) - (s2.size : Int)) = y) (k2 : IntKind.i64.wrap (y + X) = P)
  (t1 : h.toList.isEmpty = false) (t2 : decide (P < -323) = false) (t3 : decide (309 < P) = false) (t4 : decide (800 < (h.size : Int)) = true) (t5 : (800 : Int) ≤ (h.size : Int)) (t6 : (h.extract 0 800).size = 800)
  (k3 : IntKind.i64.wrap (P - 801) = Z)
  (C3 : Hid (∀ W, Cp 120 #[.string (h.extract 0 800 ++ ⟨#[49]⟩), .int .i64 10] W (NOk m W)))
  (C4 : Hid (∀ W A n c, NV W A n c m → Ct 121 #[.slice A n c, .int .i64 Z] (.float .f64 F) W)) :
  Ct 101 #[.agg #[.string s1, .string s2, .int .i64 X]] (.float .f64 F) w := by
 have hs2 : ¬ 9223372036854775807 < s1.size + s2.size := by omega
 have R0 := Lib.hid (show Rc (w.alloc (.cells #[.string s1, .string s2, .int .i64 X] 97)) w.heap.size (.string s1) (.string s2) (.int .i64 X) from heap_alloc_last w _)
 have B0 := Lib.hid (show Below w.heap.size w (w.alloc (.cells #[.string s1, .string s2, .int .i64 X] 97)) from (Below.refl _ _).alloc (Nat.le_refl _) _)
 have S0 := Lib.hid (show w.heap.size < (w.alloc (.cells #[.string s1, .string s2, .int .i64 X] 97)).heap.size by simp)
 clear hs1
 go_enter Tryz.func101, Tryz.ntmps101
 go_wp2_with fail
 refine (C1.out _).mono ?_
 rintro e w1 ⟨rfl, b1⟩
 have R1 := Lib.hid (R0.out.below b1 S0.out)
 have B1 := Lib.hid (below_le B0.out b1)
 clear b1
 obtain ⟨c0, c1, c2, _⟩ := R1.out.cells
 go_wp2_with fail
 refine (C2.out _).mono ?_
 rintro e w2 ⟨rfl, b2⟩
 have B2 := Lib.hid (below_le B1.out b2)
 clear b2
 go_wp2_with fail
 refine (C3.out _).mono ?_
 rintro e w3 ⟨A, n, c, rfl, g3, b3⟩
 have G3 := Lib.hid g3
 have B3 := Lib.hid (below_le B2.out b3)
 clear g3 b3
 go_wp2_with fail
 refine (C4.out _ _ _ _ G3.out).mono ?_
 rintro e w4 ⟨rfl, b4⟩
 have B4 := Lib.hid (below_le B3.out b4)
 clear b4
 go_wp2
 go_ret
 exact ⟨rfl, B4.out⟩


end Go.Proofs.YtjmplgbhjpldbaaGreatDoor
namespace Go.Proofs.YtjmplgbhjpldbaaGreatDoor
open Go.RowKit
theorem dg_byte {l : List Nat} (h : ∀ c ∈ l, dg10 c = true) : ∀ c ∈ l, c < 256 := fun c hc => by
 have := dg10_iff.1 (h c hc)
 omega
theorem parse_dec (l : List Nat) (w : World) (hd : ∀ c ∈ l, dg10 c = true) (h0 : l ≠ []) (hl : l.length ≤ 801) : Cp 120 #[.string (strOf l), .int .i64 10] w (NOk (num 10 l) w) := by
 have hb := bl_strOf (dg_byte hd)
 have h := parse_ok (strOf l) 10 w (by rw [strOf_size]; omega) (by omega) (by omega) (adB_all (by rw [hb]; exact h0) (by rw [hb]; exact fun c hc => (dgt_ten (hd c hc)).2))
 rw [sv_num, hb] at h
 refine h.mono fun e w' x => NOk.of (lng_bln ?_) x
 have h1 := num_hi hd
 have h2 := bln_mono (Nat.le_of_lt h1)
 have h3 := bln_ten l.length
 omega
theorem bln_dec {l : List Nat} (hd : ∀ c ∈ l, dg10 c = true) (hl : l.length ≤ 801) : bln (num 10 l) ≤ 3300 := by
 have h2 := bln_mono (Nat.le_of_lt (num_hi hd))
 have h3 := bln_ten l.length
 omega
theorem tfloat_any (W F : List Nat) (X : Int) (w : World) (hW : ∀ c ∈ W, dg10 c = true) (hF : ∀ c ∈ F, dg10 c = true) (hs : W.length + F.length ≤ 4611686018427387903) (hX : -10995116277760 < X ∧ X < 10995116277760) :
  Ct 101 #[.agg #[.string (strOf W), .string (strOf F), .int .i64 X]] (.float .f64 (decR (num 10 (W ++ F)) (X - F.length))) w := by
 obtain ⟨f, hf⟩ : ∃ f, W ++ F = f := ⟨_, rfl⟩
 have hd : ∀ c ∈ f, dg10 c = true := by
  intro c hc
  rw [← hf] at hc
  rcases List.mem_append.1 hc with h | h
  ·exact hW c h
  ·exact hF c h
 have hfl : f.length = W.length + F.length := by rw [← hf, List.length_append]
 rw [hf]
 have hg : ∀ c ∈ ldz f, dg10 c = true := fun c hc => hd c (ldz_mem hc)
 have hh : ∀ c ∈ trz (ldz f), dg10 c = true := fun c hc => hg c (trz_mem hc)
 have hgl : (ldz f).length ≤ f.length := (List.dropWhile_sublist _).length_le
 have htl := trz_len (ldz f)
 have hcat : strOf W ++ strOf F = strOf f := by rw [strOf_append, hf]
 have C1 : Hid (∀ V, Ct 117 #[.string (strOf W ++ strOf F), .string ⟨#[48]⟩] (.string (strOf (ldz f))) V) := Lib.hid (fun V => by
  have := trimL48 (strOf f) V
  rw [bl_strOf (dg_byte hd)] at this
  rw [hcat]
  exact this)
 have C2 : Hid (∀ V, Ct 118 #[.string (strOf (ldz f)), .string ⟨#[48]⟩] (.string (strOf (trz (ldz f)))) V) := Lib.hid (fun V => by
  have := trimR48 (strOf (ldz f)) V (by rw [strOf_size]; omega)
  rw [bl_strOf (dg_byte hg)] at this
  exact this)
 have z1 := strOf_size (ldz f)
 have z2 := strOf_size F
 have z3 := strOf_size (trz (ldz f))
 have z4 := strOf_size W
 obtain ⟨P, hP⟩ : ∃ P, ((ldz f).length : Int) + (X - F.length) = P := ⟨_, rfl⟩
 have k1 : IntKind.i64.wrap (((strOf (ldz f)).size : Int) - ((strOf F).size : Int)) = ((ldz f).length : Int) - F.length := by rw [z1, z2]; exact IntWalk.i64_in _ (by omega)
 have k2 : IntKind.i64.wrap (((ldz f).length : Int) - F.length + X) = P := by rw [IntWalk.i64_in _ (by omega)]; omega
 by_cases h0 : trz (ldz f) = []
 ·rw [pway_none h0]
  exact tfloat_none _ _ _ _ X _ P w (by omega) C1 C2 k1 k2 (by rw [h0, Lib.toList_data]; rfl)
 ·have t1 := (str_ne h0).2
  by_cases h1 : P < -323
  ·rw [pway_low hd (by omega)]
   exact tfloat_low _ _ _ _ X _ P w (by omega) C1 C2 k1 k2 t1 (decide_eq_true h1)
  ·by_cases h2 : 309 < P
   ·rw [pway_high hd h0 (by omega)]
    exact tfloat_high _ _ _ _ X _ P w (by omega) C1 C2 k1 k2 t1 (decide_eq_false h1) (decide_eq_true h2)
   ·by_cases h3 : 800 < (trz (ldz f)).length
    ·rw [pway_long hd h3 (by omega), show ((ldz f).length : Int) + (X - F.length) - 801 = P - 801 by omega]
     obtain ⟨l, hl⟩ : ∃ l, (trz (ldz f)).take 800 ++ [49] = l := ⟨_, rfl⟩
     have ll : l.length = 801 := by rw [← hl, List.length_append, List.length_take]; simp; omega
     have ld : ∀ c ∈ l, dg10 c = true := by
      intro c hc
      rw [← hl] at hc
      rcases List.mem_append.1 hc with h | h
      ·exact hh c (List.mem_of_mem_take h)
      ·rw [List.mem_singleton.1 h]; rfl
     have lh : l.head? ≠ some 48 := by
      rw [← hl]
      have := trz_head (lead_head f)
      cases ht : trz (ldz f) with
      | nil => exact absurd ht h0
      | cons a b =>
       rw [show List.dropWhile (fun x => x == 48) f = ldz f from rfl, ht] at this
       exact this
     have l0 : l ≠ [] := fun e => by rw [e] at ll; simp at ll
     have lp : 0 < num 10 l := Nat.lt_of_lt_of_le (ten_pos _) (num_lo ld l0 lh)
     have hstr : (strOf (trz (ldz f))).extract 0 800 ++ (⟨#[49]⟩ : ByteArray) = strOf l := by
      rw [ext_take, bl_strOf (dg_byte hh), ← hl, ← strOf_append]
      rfl
     rw [hl]
     have t5 : (800 : Int) ≤ ((strOf (trz (ldz f))).size : Int) := by rw [z3]; omega
     have t4 : decide (800 < ((strOf (trz (ldz f))).size : Int)) = true := decide_eq_true (by rw [z3]; omega)
     have t6 : ((strOf (trz (ldz f))).extract 0 800).size = 800 := by
      rw [ext_take, bl_strOf (dg_byte hh), strOf_size, List.length_take]
      exact Nat.min_eq_left (by omega)
     have k3 : IntKind.i64.wrap (P - 801) = P - 801 := IntWalk.i64_in _ (by omega)
     have C3 : Hid (∀ V, Cp 120 #[.string ((strOf (trz (ldz f))).extract 0 800 ++ (⟨#[49]⟩ : ByteArray)), .int .i64 10] V (NOk (num 10 l) V)) := Lib.hid (fun V => by
      rw [hstr]
      exact parse_dec l V ld l0 (by omega))
     have C4 : Hid (∀ V A n c, NV V A n c (num 10 l) → Ct 121 #[.slice A n c, .int .i64 (P - 801)] (.float .f64 (decR (num 10 l) (P - 801))) V) := Lib.hid (fun V A n c h => tnearest_any (P - 801) h (bln_dec ld (by omega)) lp (by omega) (by omega))
     exact tfloat_long _ _ _ _ X _ P _ (num 10 l) _ w (by omega) C1 C2 k1 k2 t1 (decide_eq_false h1) (decide_eq_false h2) t4 t5 t6 k3 C3 C4
    ·rw [pway_short, show ((ldz f).length : Int) + (X - F.length) - (trz (ldz f)).length = P - (trz (ldz f)).length by omega]
     have lp : 0 < num 10 (trz (ldz f)) := Nat.lt_of_lt_of_le (ten_pos _) (num_lo hh h0 (trz_head (lead_head f)))
     have C3 : Hid (∀ V, Cp 120 #[.string (strOf (trz (ldz f))), .int .i64 10] V (NOk (num 10 (trz (ldz f))) V)) := Lib.hid (fun V => parse_dec _ V hh h0 (by omega))
     obtain ⟨Z, hZ⟩ : ∃ Z, P - ((trz (ldz f)).length : Int) = Z := ⟨_, rfl⟩
     rw [hZ]
     have C4 : Hid (∀ V A n c, NV V A n c (num 10 (trz (ldz f))) → Ct 121 #[.slice A n c, .int .i64 Z] (.float .f64 (decR (num 10 (trz (ldz f))) Z)) V) := Lib.hid (fun V A n c h => tnearest_any Z h (bln_dec hh (by omega)) lp (by omega) (by omega))
     have k3 : IntKind.i64.wrap (P - ((strOf (trz (ldz f))).size : Int)) = Z := by rw [z3, ← hZ]; exact IntWalk.i64_in _ (by omega)
     have t4 : decide (800 < ((strOf (trz (ldz f))).size : Int)) = false := decide_eq_false (by rw [z3]; omega)
     exact tfloat_short _ _ _ _ X _ P Z (num 10 (trz (ldz f))) _ w (by omega) C1 C2 k1 k2 t1 (decide_eq_false h1) (decide_eq_false h2) t4 k3 C3 C4
theorem tfloat_dec (l : List Nat) (w : World) (hs : l.length ≤ 4611686018427387903) :
  Ct 101 #[.agg #[.string (strOf (dW l)), .string (strOf (dF l)), .int .i64 (dX l)]] (.float .f64 (dV l)) w := by
 have h1 := run_len l
 have h2 : (dF l).length ≤ (aft10 l).length := by
  unfold dF
  split
  ·have := run_len (aft10 l).tail
   rw [List.length_tail] at this
   omega
  ·simp
 refine tfloat_any (dW l) (dF l) (dX l) w (run10_all l) ?_ (by unfold dW; omega) (exV_le _)
 intro c hc
 unfold dF at hc
 split at hc
 ·exact run10_all _ c hc
 ·simp at hc


end Go.Proofs.YtjmplgbhjpldbaaGreatDoor
namespace Go.Proofs.YtjmplgbhjpldbaaGreatDoor
open Go.RowKit
theorem fl_decR (N : Nat) : fl N = decR N 0 := by
 obtain ⟨K, hK, hd⟩ := decR_K
 rw [fl_near, near_rnd false (a := K) (b := 0) (by omega), hd, show (0 : Int).toNat = 0 from rfl, show (-(0 : Int)).toNat = 0 from rfl, Nat.pow_zero, Nat.mul_one, word_pos]
theorem decR_top {N : Nat} {D : Nat} (hD : D = 1024) (h : 2 ^ D ≤ N) : decR N 0 = 9218868437227405312 := by
 obtain ⟨K, hK, hd⟩ := decR_K
 rw [hd]
 refine rnd_top (ten_pos _) ?_
 obtain ⟨E, hE⟩ : ∃ E : Nat, E = 2046 := ⟨_, rfl⟩
 have e1 := fmag_make 4503599627370496 E (by omega) (by omega)
 rw [show E * 4503599627370496 + 4503599627370496 = 9218868437227405312 by omega] at e1
 rw [e1, show (0 : Int).toNat = 0 from rfl, show (-(0 : Int)).toNat = 0 from rfl, Nat.pow_zero, Nat.mul_one, Nat.mul_one]
 have h2 : 4503599627370496 * 2 ^ E = 2 ^ D * 2 ^ K := by
  rw [show (4503599627370496 : Nat) = 2 ^ 52 from rfl, ← Nat.pow_add, ← Nat.pow_add]
  exact congrArg (fun k => 2 ^ k) (show 52 + E = D + K by omega)
 rw [h2]
 exact Nat.mul_le_mul_right _ h
theorem dgt_zero {c : Nat} (h : dgt c = 0) : c = 48 := by
 unfold dgt at h
 split at h
 ·omega
 ·split at h
  ·omega
  ·split at h <;> omega
theorem num_lo_r {r : Nat} {g : List Nat} (h0 : g ≠ []) (hh : g.head? ≠ some 48) : r ^ (g.length - 1) ≤ num r g := by
 cases g with
 | nil => exact absurd rfl h0
 | cons c l =>
  have h1 : dgt c ≠ 0 := fun e => hh (by rw [dgt_zero e]; rfl)
  rw [num_cons]
  have h3 : 1 * r ^ l.length ≤ dgt c * r ^ l.length := Nat.mul_le_mul_right _ (by omega)
  simp only [List.length_cons, Nat.add_sub_cancel]
  omega
set_option maxRecDepth 100000 in
set_option maxHeartbeats 1000000 in
theorem twhole_top (s g : ByteArray) (r : Nat) (w : World)
  (C1 : Hid (∀ W, Ct 117 #[.string s, .string ⟨#[48]⟩] (.string g) W)) (t1 : decide (1024 < (g.size : Int)) = true) :
  Ct 114 #[.string s, .int .i64 r] (.float .f64 9218868437227405312) w := by
 have C2 := Lib.hid (fun W => inf1_any W)
 go_enter Tryz.func114, Tryz.ntmps114
 go_wp2_with fail
 refine (C1.out _).mono ?_
 rintro e w1 ⟨rfl, b1⟩
 go_wp2_with fail
 refine (C2.out _).mono ?_
 rintro e w' ⟨rfl, rfl⟩
 go_wp2
 go_ret
 exact ⟨rfl, b1⟩
set_option maxRecDepth 100000 in
set_option maxHeartbeats 1000000 in
theorem twhole_low (s g : ByteArray) (r N : Nat) (w : World)
  (C1 : Hid (∀ W, Ct 117 #[.string s, .string ⟨#[48]⟩] (.string g) W)) (t1 : decide (1024 < (g.size : Int)) = false)
  (C2 : Hid (∀ W, Cp 120 #[.string s, .int .i64 r] W (NOk N W)))
  (C3 : Hid (∀ W A n c, NV W A n c N → Ct 128 #[.slice A n c] (.float .f64 (fl N)) W)) :
  Ct 114 #[.string s, .int .i64 r] (.float .f64 (fl N)) w := by
 go_enter Tryz.func114, Tryz.ntmps114
 go_wp2_with fail
 refine (C1.out _).mono ?_
 rintro e w1 ⟨rfl, b1⟩
 have B1 := Lib.hid b1
 clear b1
 go_wp2_with fail
 refine (C2.out _).mono ?_
 rintro e w2 ⟨A, n, c, rfl, g2, b2⟩
 have G2 := Lib.hid g2
 have B2 := Lib.hid (below_le B1.out b2)
 clear g2 b2
 go_wp2_with fail
 refine (C3.out _ _ _ _ G2.out).mono ?_
 rintro e w3 ⟨rfl, b3⟩
 have B3 := Lib.hid (below_le B2.out b3)
 clear b3
 go_wp2
 go_ret
 exact ⟨rfl, B3.out⟩
theorem natV_lead (r : Nat) (l : List Nat) : natV r (ldz l) = natV r l := by unfold natV ldz; rw [num_lead]
theorem twhole_any (l : List Nat) (r : Nat) (w : World) (h2 : 2 ≤ r) (h36 : r ≤ 36) (h0 : l ≠ []) (hd : ∀ c ∈ l, dgt c < r) (hb : ∀ c ∈ l, c < 256) (hs : l.length ≤ 4611686018427387903) :
  Ct 114 #[.string (strOf l), .int .i64 r] (.float .f64 (natV r l)) w := by
 have C1 : Hid (∀ V, Ct 117 #[.string (strOf l), .string ⟨#[48]⟩] (.string (strOf (ldz l))) V) := Lib.hid (fun V => by
  have := trimL48 (strOf l) V
  rw [bl_strOf hb] at this
  exact this)
 have z1 := strOf_size (ldz l)
 by_cases h : 1024 < (ldz l).length
 ·have key : natV r l = 9218868437227405312 := by
   rw [← natV_lead]
   obtain ⟨D, hD⟩ : ∃ D : Nat, D = 1024 := ⟨_, rfl⟩
   refine decR_top hD ?_
   refine Nat.le_trans ?_ (num_lo_r (r := r) (fun e => by rw [e] at h; simp at h) (lead_head l))
   exact Nat.le_trans (Nat.pow_le_pow_left h2 D) (Nat.pow_le_pow_right (by omega) (by omega))
  rw [key]
  exact twhole_top _ _ r w C1 (decide_eq_true (by rw [z1]; omega))
 ·have hdl : ∀ c ∈ ldz l, dgt c < r := fun c hc => hd c (ldz_mem hc)
  have hnum : num r (ldz l) = num r l := num_lead r l
  have hbn : bln (num r l) ≤ 30000 := by
   rw [← hnum]
   have a1 := bln_mono (Nat.le_of_lt (num_lt hdl))
   have a2 := bln_pow r (ldz l).length
   have a3 : bln r ≤ 6 := bln_le (by omega)
   have a4 : bln r * (ldz l).length ≤ 6 * 1024 := Nat.mul_le_mul a3 (by omega)
   omega
  have C2 : Hid (∀ V, Cp 120 #[.string (strOf l), .int .i64 r] V (NOk (num r l) V)) := Lib.hid (fun V => by
   have hbl := bl_strOf hb
   have h := parse_ok (strOf l) r V (by rw [strOf_size]; exact hs) h2 h36 (adB_all (by rw [hbl]; exact h0) (by rw [hbl]; exact hd))
   rw [sv_num, hbl] at h
   exact h.mono fun e w' x => NOk.of (lng_bln hbn) x)
  have C3 : Hid (∀ V A n c, NV V A n c (num r l) → Ct 128 #[.slice A n c] (.float .f64 (fl (num r l))) V) := Lib.hid (fun V A n c g => by
   have a1 := small_len hbn
   rw [g.len] at a1
   have := pfloat_any A n c (wds (num r l)) V g.len g.cap (by omega) g.row
   rw [wds_val] at this
   exact this)
  have key : natV r l = fl (num r l) := (fl_decR _).symm
  rw [key]
  exact twhole_low _ _ r _ w C1 (decide_eq_false (by rw [z1]; omega)) C2 C3


end Go.Proofs.YtjmplgbhjpldbaaGreatDoor
namespace Go.Proofs.YtjmplgbhjpldbaaGreatDoor
open Go.RowKit
theorem lower_str (l : List Nat) (w : World) (hl : ∀ c ∈ l, c < 128) (hs : l.length ≤ 140737488355328) :
  Ct 113 #[.string (strOf l)] (.string (strOf (l.map lowC))) w := by
 have hb : ∀ c ∈ l, c < 256 := fun c hc => Nat.lt_trans (hl c hc) (by omega)
 have h := Tryz.strings_ToLower_ascii (strOf l) w (by rw [strOf_size]; exact hs) (asc_of (by rw [bl_strOf hb]; exact hl))
 rw [lower_eq (by rw [bl_strOf hb]; exact hl), bl_strOf hb] at h
 exact h
theorem low_lt {l : List Nat} (hl : ∀ c ∈ l, c < 128) : ∀ c ∈ l.map lowC, c < 256 := by
 intro c hc
 obtain ⟨d, hd, rfl⟩ := List.mem_map.1 hc
 have := hl d hd
 unfold lowC
 split <;> omega
theorem cut_low (l : List Nat) (r : Nat) (w : World) (hr : r ≤ 36) (hl : ∀ c ∈ l, c < 128) (hs : l.length ≤ 140737488355328) :
  Ct 112 #[.string (strOf (l.map lowC)), .int .i64 r] (.tuple #[.string (strOf ((l.takeWhile (dgq r)).map lowC)), .string (strOf ((l.dropWhile (dgq r)).map lowC))]) w := by
 have h := tcutDigits_any (strOf (l.map lowC)) r w hr (by rw [strOf_size, List.length_map]; omega)
 rw [bl_strOf (low_lt hl), take_low, drop_low] at h
 exact h
theorem natV_low (r : Nat) (l : List Nat) : natV r (l.map lowC) = natV r l := by unfold natV; rw [num_low]
theorem take_dgq (r : Nat) (l : List Nat) : ∀ c ∈ l.takeWhile (dgq r), dgt c < r := by
 induction l with
 | nil => intro c hc; simp at hc
 | cons d t ih =>
  intro c hc
  rw [List.takeWhile_cons] at hc
  cases hd : dgq r d
  ·rw [hd] at hc; simp at hc
  ·rw [hd] at hc
   simp only [if_true] at hc
   rcases List.mem_cons.1 hc with rfl | h
   ·exact of_decide_eq_true hd
   ·exact ih c h
theorem drop_nil (p : Nat → Bool) : ∀ l : List Nat, l.dropWhile p = [] ↔ l.all p = true
 | [] => by simp
 | c :: l => by
  by_cases h : p c = true
  ·rw [List.dropWhile_cons_of_pos h, List.all_cons, h, Bool.true_and]
   exact drop_nil p l
  ·rw [List.dropWhile_cons_of_neg h, List.all_cons]
   simp [h]
theorem take_all (p : Nat → Bool) : ∀ l : List Nat, l.all p = true → l.takeWhile p = l
 | [], _ => rfl
 | c :: l, h => by
  rw [List.all_cons, Bool.and_eq_true] at h
  rw [List.takeWhile_cons_of_pos h.1, take_all p l h.2]
theorem dgq_hx : dgq 16 = hx16 := rfl
set_option maxRecDepth 100000 in
set_option maxHeartbeats 1000000 in
theorem thex_no (s u : ByteArray) (w : World) (C1 : Hid (∀ W, Cq 111 #[.string s] (.tuple #[.string u, .bool false]) W)) :
  Ct 99 #[.string s] (.tuple #[.float .f64 0, .bool false]) w := by
 go_enter Tryz.func99, Tryz.ntmps99
 go_wp2_with fail
 refine (C1.out _).mono ?_
 rintro e w' ⟨rfl, rfl⟩
 go_wp2
 go_ret2
 exact ⟨rfl, Below.refl _ _⟩
set_option maxRecDepth 100000 in
set_option maxHeartbeats 1000000 in
theorem thex_not (s u v f q : ByteArray) (w : World) (C1 : Hid (∀ W, Cq 111 #[.string s] (.tuple #[.string u, .bool true]) W))
  (C2 : Hid (∀ W, Ct 113 #[.string u] (.string v) W))
  (C3 : Hid (∀ W, Ct 112 #[.string v, .int .i64 16] (.tuple #[.string f, .string q]) W))
  (t : f.toList.isEmpty = true ∨ (f.toList.isEmpty = false ∧ q.toList.isEmpty = false)) :
  Ct 99 #[.string s] (.tuple #[.float .f64 0, .bool false]) w := by
 rcases t with t1 | ⟨t1, t2⟩
 all_goals
  go_enter Tryz.func99, Tryz.ntmps99
  go_wp2_with fail
  refine (C1.out _).mono ?_
  rintro e w' ⟨rfl, rfl⟩
  go_wp2_with fail
  refine (C2.out _).mono ?_
  rintro e w1 ⟨rfl, b1⟩
  go_wp2_with fail
  refine (C3.out _).mono ?_
  rintro e w2 ⟨rfl, b2⟩
  have B2 := Lib.hid (below_le b1 b2)
  clear b1 b2
  go_wp2
  go_ret2
  exact ⟨rfl, B2.out⟩
set_option maxRecDepth 100000 in
set_option maxHeartbeats 1000000 in
theorem thex_yes (s u v f q : ByteArray) (F : Nat) (w : World) (C1 : Hid (∀ W, Cq 111 #[.string s] (.tuple #[.string u, .bool true]) W))
  (C2 : Hid (∀ W, Ct 113 #[.string u] (.string v) W))
  (C3 : Hid (∀ W, Ct 112 #[.string v, .int .i64 16] (.tuple #[.string f, .string q]) W))
  (C4 : Hid (∀ W, Ct 114 #[.string f, .int .i64 16] (.float .f64 F) W))
  (t1 : f.toList.isEmpty = false) (t2 : q.toList.isEmpty = true) :
  Ct 99 #[.string s] (.tuple #[.float .f64 F, .bool true]) w := by
 go_enter Tryz.func99, Tryz.ntmps99
 go_wp2_with fail
 refine (C1.out _).mono ?_
 rintro e w' ⟨rfl, rfl⟩
 go_wp2_with fail
 refine (C2.out _).mono ?_
 rintro e w1 ⟨rfl, b1⟩
 go_wp2_with fail
 refine (C3.out _).mono ?_
 rintro e w2 ⟨rfl, b2⟩
 have B2 := Lib.hid (below_le b1 b2)
 clear b1 b2
 go_wp2_with fail
 refine (C4.out _).mono ?_
 rintro e w3 ⟨rfl, b3⟩
 have B3 := Lib.hid (below_le B2.out b3)
 clear b3
 go_wp2
 go_ret2
 exact ⟨rfl, B3.out⟩


end Go.Proofs.YtjmplgbhjpldbaaGreatDoor
namespace Go.Proofs.YtjmplgbhjpldbaaGreatDoor
open Go.RowKit
theorem thexadecimal_any (l : List Nat) (w : World) (hl : ∀ c ∈ l, c < 128) (hs : l.length ≤ 140737488355328) :
  Ct 99 #[.string (strOf l)] (.tuple #[.float .f64 (if hxB l = true then natV 16 (l.drop 2) else 0 : Nat), .bool (hxB l)]) w := by
 have hb : ∀ c ∈ l, c < 256 := fun c hc => Nat.lt_trans (hl c hc) (by omega)
 have C1 : ∀ W, Cq 111 #[.string (strOf l)] (.tuple #[.string (strOf (if hxA l = true then l.drop 2 else l)), .bool (hxA l)]) W := by
  intro W
  have := tcutHex_any (strOf l) W
  rw [bl_strOf hb] at this
  exact this
 obtain ⟨u, hu⟩ : ∃ u, l.drop 2 = u := ⟨_, rfl⟩
 have hul : ∀ c ∈ u, c < 128 := fun c hc => hl c (by rw [← hu] at hc; exact List.mem_of_mem_drop hc)
 have hus : u.length ≤ 140737488355328 := by rw [← hu, List.length_drop]; omega
 have hx : hxB l = (hxA l && !u.isEmpty && u.all hx16) := by unfold hxB; rw [hu]
 rw [hu]
 rw [hu] at C1
 cases ha : hxA l
 ·rw [ha] at C1 hx
  rw [hx, Bool.false_and, Bool.false_and, if_neg (by simp)]
  exact thex_no _ _ w (Lib.hid C1)
 ·rw [ha, if_pos rfl] at C1
  rw [ha, Bool.true_and] at hx
  have C2 := Lib.hid (fun W => lower_str u W hul hus)
  have C3 := Lib.hid (fun W => cut_low u 16 W (by omega) hul hus)
  have ne : ∀ R : List Nat, R ≠ [] → (strOf R).toList.isEmpty = false := fun R hR => (str_ne hR).2
  have em : (strOf []).toList.isEmpty = true := by rw [Lib.toList_data]; rfl
  by_cases h1 : u.takeWhile (dgq 16) = []
  ·have hn : hxB l = false := by
    rw [hx]
    cases u with
    | nil => rfl
    | cons c t =>
     have : dgq 16 c = false := by
      cases h : dgq 16 c
      ·rfl
      ·rw [List.takeWhile_cons_of_pos h] at h1; cases h1
     show (true && (hx16 c && t.all hx16)) = false
     rw [← dgq_hx, this]
     rfl
   rw [hn, if_neg (by simp)]
   exact thex_not _ _ _ _ _ w (Lib.hid C1) C2 C3 (Or.inl (by rw [h1]; exact em))
  ·by_cases h2 : u.dropWhile (dgq 16) = []
   ·have h3 := (drop_nil _ _).1 h2
    have h4 := take_all _ _ h3
    have hu0 : u ≠ [] := fun e => h1 (by rw [e]; rfl)
    have hn : hxB l = true := by
     rw [hx, ← dgq_hx, h3, Bool.and_true]
     cases u with
     | nil => exact absurd rfl hu0
     | cons => rfl
    rw [hn, if_pos rfl]
    rw [h4, h2] at C3
    have hd : ∀ c ∈ u, dgt c < 16 := by
     have := take_dgq 16 u
     rw [h4] at this
     exact this
    have C4 : ∀ W, Ct 114 #[.string (strOf (u.map lowC)), .int .i64 16] (.float .f64 (natV 16 u)) W := by
     intro W
     have := twhole_any (u.map lowC) 16 W (by omega) (by omega) (by simpa using hu0) (by
      intro c hc
      obtain ⟨d, hd2, rfl⟩ := List.mem_map.1 hc
      rw [dgt_low]
      exact hd d hd2) (low_lt hul) (by rw [List.length_map]; omega)
     rw [natV_low] at this
     exact this
    exact thex_yes _ _ _ _ _ _ w (Lib.hid C1) C2 C3 (Lib.hid C4) (ne _ (by simpa using hu0)) em
   ·have hn : hxB l = false := by
     rw [hx, ← dgq_hx]
     cases h3 : u.all (dgq 16)
     ·rw [Bool.and_false]
     ·exact absurd ((drop_nil _ _).2 h3) h2
    rw [hn, if_neg (by simp)]
    exact thex_not _ _ _ _ _ w (Lib.hid C1) C2 C3 (Or.inr ⟨ne _ (by simpa using h1), ne _ (by simpa using h2)⟩)

end Go.Proofs.YtjmplgbhjpldbaaGreatDoor
namespace Go.Proofs.YtjmplgbhjpldbaaGreatDoor
open Go.RowKit
theorem bld_below {B : Nat} {l : List UInt8} {w w' : World} (h : Bld B l w) (hb : Below w.heap.size w w') : Bld B l w' := by
 have hg : w.grownBy w' none := ⟨hb.os, hb.tape, hb.output, hb.size, fun k hk _ => hb.block k hk⟩
 have key : ∀ p, Lib.BuilderAtF 70 5 B B p (Lib.byteCells l) w → Lib.BuilderAtF 70 5 B B p (Lib.byteCells l) w' := by
  intro p hA
  have hlt := Lib.BuilderAtF.lt hA
  obtain ⟨hB, v, hbk, hown, hne⟩ := hA
  exact ⟨hB, v, by rw [hb.block B hlt]; exact hbk, hown.kept hg (by cases v.ownBlock <;> simp), hne⟩
 rcases h with h | h
 ·exact .inl (key _ h)
 ·exact .inr (key _ h)
def nr0 (u : Nat) : Nat := if 127 < u then 0 else u
theorem nr0_lt (u : Nat) : nr0 u < 128 := by unfold nr0; split <;> omega
theorem row_others {w w' : World} {R B n : Nat} {f : Nat → Value} (h : w.rowIs R 47 n f) (ho : Lib.OthersKept 5 (some B) w w') (hR : R ≠ B) : w'.rowIs R 47 n f := by
 obtain ⟨c, hb, hn, hc⟩ := h
 refine ⟨c, ho R _ hb (by simpa using hR) (fun c' fz e => ?_), hn, hc⟩
 injection e with _ e2 _
 exact absurd e2 (by decide)
theorem cells_snoc (l : List UInt8) (u : Nat) (hu : u < 256) : Lib.byteCells l ++ [Value.int .u8 (u : Int)] = Lib.byteCells (l ++ [UInt8.ofNat u]) := by
 rw [Lib.byteCells_append]
 simp [Lib.byteCells]
 omega
set_option maxRecDepth 100000 in
set_option maxHeartbeats 1000000 in
theorem tnarrow_any (s : ByteArray) (w : World) (hs : s.size ≤ 140737488355328) :
  Ct 98 #[.string s] (.string (strOf (nrw 0 (us s)))) w := by
 have hl := ln_le s
 have hs63 : s.size ≤ maxLen := by unfold maxLen; omega
 have hm : ((ln s : Nat) : Int) ≤ 70368744177664 := by omega
 have H63 := Lib.hid hs63
 have C1 := Lib.hid (fun W => len_any s W H63.out)
 have C2 := Lib.hid (fun W => units_any s W hs)
 have HS := Lib.hid (show ln s ≤ 70368744177664 by omega)
 have hg : Cp 63 #[.pointer (some ⟨w.heap.size, 0, none⟩), .int .i64 (ln s : Nat)] (w.alloc (.cells #[.pointer none, .slice none 0 0] 70)) fun e w' => e = .returned (.tuple #[]) ∧ (Lib.BuilderAt 70 5 w.heap.size w.heap.size (.pointer (some ⟨w.heap.size, 0, none⟩)) [] w' ∧ Below w.heap.size (w.alloc (.cells #[.pointer none, .slice none 0 0] 70)) w') :=
  Tryz.Builder_Grow_fresh w.heap.size w.heap.size (ln s) _ (Nat.le_refl _) (alloc_new w _) (by simp) (by omega)
 have HG := Lib.hid hg
 clear hl hs hs63 hg
 go_enter Tryz.func98, Tryz.ntmps98
 go_wp2_with fail
 refine (C1.out _).mono ?_
 rintro e w' ⟨rfl, rfl⟩
 go_wp2_with fail
 refine HG.out.mono ?_
 rintro e w1 ⟨rfl, hb1, bl1⟩
 have hbl : Below w.heap.size w w1 := ((Below.refl w.heap.size w).alloc (Nat.le_refl _) _).trans bl1
 have I1 := Lib.hid (show Bld w.heap.size [] w1 from Lib.IsBuilderF.of (.inr hb1))
 have B1 := Lib.hid hbl
 clear hb1 bl1 hbl
 go_wp2_with fail
 refine (C2.out _).mono ?_
 rintro e w2 ⟨rfl, hr2, b2⟩
 have R2 := Lib.hid hr2
 have hlt1 := bld_lt I1.out
 have I2 := Lib.hid (bld_below I1.out b2)
 have B2 := Lib.hid (below_le B1.out b2)
 have HR := Lib.hid (show w1.heap.size ≠ w.heap.size by omega)
 obtain ⟨R, hR⟩ : ∃ R, w1.heap.size = R := ⟨_, rfl⟩
 rw [hR] at R2 HR ⊢
 clear hr2 b2 hlt1 hR
 go_wp2
 go_loopw [12] (fun i wr => ∃ k : Nat, i = .int .i64 k ∧ k ≤ ln s ∧ Hid (Bld w.heap.size ((((us s).take k).map nr0).map UInt8.ofNat) wr) ∧ Hid (wr.rowIs R 47 (ln s) (fun j => .int .u16 (un s j : Nat))) ∧ Hid (Below w.heap.size w wr)) (fun i _ => ln s - (intOf i).toNat)
 case atStart => exact ⟨0, rfl, Nat.zero_le _, I2, R2, B2⟩
 case round =>
  obtain ⟨k, rfl, hk, I3, R3, B3⟩ := hrel
  by_cases hlt : k < ln s
  ·have hcell : wr.cell? ⟨R, k, none⟩ = some (.int .u16 (un s k : Nat)) := R3.out.cell hlt
   have hul := un_lt s k
   have HST := Lib.hid (us_take_succ s k hlt)
   obtain ⟨u, hu⟩ : ∃ u, un s k = u := ⟨_, rfl⟩
   rw [hu] at hcell hul HST
   have hc1 := nr0_lt u
   have hlen : (Lib.byteCells ((((us s).take k).map nr0).map UInt8.ofNat)).length + 1 ≤ 140737488355328 := by
    rw [Lib.byteCells_length, List.length_map, List.length_map, List.length_take]
    have := HS.out
    omega
   have C4 := Lib.hid (fun c : Int => Tryz.Builder_WriteByte_k w.heap.size w.heap.size _ c wr I3.out hlen B3.out.size)
   have KEY := Lib.hid (show ∀ w', Lib.BuilderAtF 70 5 w.heap.size w.heap.size (.pointer (some ⟨w.heap.size, 0, none⟩)) (Lib.byteCells ((((us s).take k).map nr0).map UInt8.ofNat) ++ [.int .u8 (nr0 u : Nat)]) w' → Bld w.heap.size ((((us s).take (k + 1)).map nr0).map UInt8.ofNat) w' from fun w' h => by
    rw [cells_snoc _ _ (by omega)] at h
    rw [HST.out, List.map_append, List.map_append]
    exact Or.inr h)
   have a1 : (0 : Int) ≤ (k : Int) := by omega
   have a2 : (k : Int) < (ln s : Int) := by omega
   clear hlen
   by_cases hb : 127 < u
   ·have e0 : nr0 u = 0 := if_pos hb
    rw [e0] at KEY
    have t1 : decide ((127 : Int) < (u : Int)) = true := decide_eq_true (by omega)
    clear hu hul hc1 hb e0
    go_wp2_with fail
    refine (C4.out 0).mono ?_
    rintro e w3 ⟨rfl, hI, hb3, ho3⟩
    have I4 := Lib.hid (KEY.out _ hI)
    have R4 := Lib.hid (row_others R3.out ho3 HR.out)
    have B4 := Lib.hid (B3.out.trans hb3)
    clear hI hb3 ho3
    go_wp2
    exact ⟨⟨k + 1, by go_num, by omega, I4, R4, B4⟩, by simp [intOf]; omega⟩
   ·have e0 : nr0 u = u := if_neg hb
    rw [e0] at KEY
    have t1 : decide ((127 : Int) < (u : Int)) = false := decide_eq_false (by omega)
    have k1 : IntKind.u8.wrap (u : Int) = (u : Int) := IntWalk.u8_in _ (by omega)
    clear hu hul hc1 hb e0
    go_wp2_with fail
    refine (C4.out _).mono ?_
    rintro e w3 ⟨rfl, hI, hb3, ho3⟩
    have I4 := Lib.hid (KEY.out _ hI)
    have R4 := Lib.hid (row_others R3.out ho3 HR.out)
    have B4 := Lib.hid (B3.out.trans hb3)
    clear hI hb3 ho3
    go_wp2
    exact ⟨⟨k + 1, by go_num, by omega, I4, R4, B4⟩, by simp [intOf]; omega⟩
  ·obtain ⟨T, hT⟩ : ∃ T, (((us s).take k).map nr0).map UInt8.ofNat = T := ⟨_, rfl⟩
   have I5 := I3.out
   rw [hT] at I5
   have hS := Lib.hid (Tryz.Builder_String_any_k w.heap.size w.heap.size T wr I5 B3.out.size)
   have HZ := Lib.hid (show (⟨T.toArray⟩ : ByteArray) = strOf (nrw 0 (us s)) from by
    rw [← hT, show (us s).take k = us s by rw [show k = ln s by omega]; exact us_take_all s]
    rfl)
   clear hT I5 I3
   go_wp2_with (go_at_call 65; refine hS.out.mono ?_; rintro e w2 ⟨rfl, _, hb2, _⟩)
   go_ret
   exact ⟨by rw [← HZ.out]; rfl, B3.out.trans hb2⟩


end Go.Proofs.YtjmplgbhjpldbaaGreatDoor
namespace Go.Proofs.YtjmplgbhjpldbaaGreatDoor
open Go.RowKit
theorem nrw_len (z : Nat) (l : List Nat) : (nrw z l).length = l.length := by unfold nrw; rw [List.length_map]
theorem nrw_size {s : ByteArray} (h : s.size ≤ 140737488355328) : (nrw 0 (us s)).length ≤ 140737488355328 := by
 rw [nrw_len, us_length]
 have := ln_le s
 omega
theorem em_str : (strOf []).toList.isEmpty = true := by rw [Lib.toList_data]; rfl

end Go.Proofs.YtjmplgbhjpldbaaGreatDoor
namespace Go.Proofs.YtjmplgbhjpldbaaGreatDoor
open Go.RowKit
def octB (l : List Nat) : Bool := l.head? == some 48 && (l.tail.head?.map dg10 == some true)
theorem oct_whole (l : List Nat) : octB l = true ↔ 1 < (dW l).length ∧ (dW l).head? = some 48 := by
 unfold octB dW run10
 cases l with
 | nil => simp
 | cons c t =>
  by_cases hc : c = 48
  ·subst hc
   rw [List.takeWhile_cons_of_pos (by decide)]
   cases t with
   | nil => simp
   | cons d q =>
    cases hd : dg10 d
    ·rw [List.takeWhile_cons_of_neg (by rw [hd]; simp)]; simp [hd]
    ·rw [List.takeWhile_cons_of_pos hd]; simp [hd]
  ·constructor
   ·intro h; simp [hc] at h
   ·rintro ⟨_, h⟩
    by_cases hg : dg10 c = true
    ·rw [List.takeWhile_cons_of_pos hg] at h; simp at h; exact absurd h hc
    ·rw [List.takeWhile_cons_of_neg hg] at h; simp at h
theorem lit_eq (l : List Nat) : litB l = (hxB l || (dB l && (dR l).isEmpty && !octB l)) := rfl
set_option maxRecDepth 100000 in
set_option maxHeartbeats 1000000 in
theorem tLiteral_hex (s l : ByteArray) (H : Nat) (w : World)
  (C2 : Hid (∀ W, Ct 98 #[.string s] (.string l) W))
  (C3 : Hid (∀ W, Ct 99 #[.string l] (.tuple #[.float .f64 H, .bool true]) W)) :
  Ct 79 #[.string s] (.tuple #[.float .f64 H, .bool true]) w := by
 go_enter Tryz.func79, Tryz.ntmps79
 go_wp2_with fail
 refine (C2.out _).mono ?_
 rintro e w1 ⟨rfl, b1⟩
 have B1 := Lib.hid b1
 clear b1
 go_wp2_with fail
 refine (C3.out _).mono ?_
 rintro e w2 ⟨rfl, b2⟩
 have B2 := Lib.hid (below_le B1.out b2)
 clear b2
 go_wp2
 go_ret2
 exact ⟨rfl, B2.out⟩
set_option maxRecDepth 100000 in
set_option maxHeartbeats 1000000 in
theorem tLiteral_none (s l : ByteArray) (w : World)
  (C2 : Hid (∀ W, Ct 98 #[.string s] (.string l) W))
  (C3 : Hid (∀ W, Ct 99 #[.string l] (.tuple #[.float .f64 0, .bool false]) W))
  (C4 : Hid (∀ W, Ct 100 #[.string l] (.tuple #[.agg #[.string ⟨#[]⟩, .string ⟨#[]⟩, .int .i64 0], .string ⟨#[]⟩, .bool false]) W)) :
  Ct 79 #[.string s] (.tuple #[.float .f64 0, .bool false]) w := by
 go_enter Tryz.func79, Tryz.ntmps79
 go_wp2_with fail
 refine (C2.out _).mono ?_
 rintro e w1 ⟨rfl, b1⟩
 have B1 := Lib.hid b1
 clear b1
 go_wp2_with fail
 refine (C3.out _).mono ?_
 rintro e w2 ⟨rfl, b2⟩
 have B2 := Lib.hid (below_le B1.out b2)
 clear b2
 go_wp2_with fail
 refine (C4.out _).mono ?_
 rintro e w3 ⟨rfl, b3⟩
 have B3 := Lib.hid (alloc_below (.cells #[.string ⟨#[]⟩, .string ⟨#[]⟩, .int .i64 0] 97) (below_le B2.out b3))
 clear b3
 go_wp2
 go_ret2
 exact ⟨rfl, B3.out⟩
set_option maxRecDepth 100000 in
set_option maxHeartbeats 1000000 in
theorem tLiteral_a (s l p q r : ByteArray) (X : Int) (w : World)
  (C2 : Hid (∀ W, Ct 98 #[.string s] (.string l) W))
  (C3 : Hid (∀ W, Ct 99 #[.string l] (.tuple #[.float .f64 0, .bool false]) W))
  (C4 : Hid (∀ W, Ct 100 #[.string l] (.tuple #[.agg #[.string p, .string q, .int .i64 X], .string r, .bool true]) W))
  (t1 : r.toList.isEmpty = false) :
  Ct 79 #[.string s] (.tuple #[.float .f64 0, .bool false]) w := by
 go_enter Tryz.func79, Tryz.ntmps79
 go_wp2_with fail
 refine (C2.out _).mono ?_
 rintro e w1 ⟨rfl, b1⟩
 have B1 := Lib.hid b1
 clear b1
 go_wp2_with fail
 refine (C3.out _).mono ?_
 rintro e w2 ⟨rfl, b2⟩
 have B2 := Lib.hid (below_le B1.out b2)
 clear b2
 go_wp2_with fail
 refine (C4.out _).mono ?_
 rintro e w3 ⟨rfl, b3⟩
 have B3 := Lib.hid (alloc_below (.cells #[.string p, .string q, .int .i64 X] 97) (below_le B2.out b3))
 clear b3
 go_wp2
 go_ret2
 exact ⟨rfl, B3.out⟩
set_option maxRecDepth 100000 in
set_option maxHeartbeats 1000000 in
theorem tLiteral_b (s l p q r : ByteArray) (X : Int) (w : World)
  (C2 : Hid (∀ W, Ct 98 #[.string s] (.string l) W))
  (C3 : Hid (∀ W, Ct 99 #[.string l] (.tuple #[.float .f64 0, .bool false]) W))
  (C4 : Hid (∀ W, Ct 100 #[.string l] (.tuple #[.agg #[.string p, .string q, .int .i64 X], .string r, .bool true]) W))
  (t1 : r.toList.isEmpty = true) (t2 : decide (1 < (p.size : Int)) = true) (h0 : 0 < p.size) (t3 : (((p[0]'h0).toNat : Int) == 48) = true) :
  Ct 79 #[.string s] (.tuple #[.float .f64 0, .bool false]) w := by
 go_enter Tryz.func79, Tryz.ntmps79
 go_wp2_with fail
 refine (C2.out _).mono ?_
 rintro e w1 ⟨rfl, b1⟩
 have B1 := Lib.hid b1
 clear b1
 go_wp2_with fail
 refine (C3.out _).mono ?_
 rintro e w2 ⟨rfl, b2⟩
 have B2 := Lib.hid (below_le B1.out b2)
 clear b2
 go_wp2_with fail
 refine (C4.out _).mono ?_
 rintro e w3 ⟨rfl, b3⟩
 have B3 := Lib.hid (alloc_below (.cells #[.string p, .string q, .int .i64 X] 97) (below_le B2.out b3))
 clear b3
 go_wp2
 go_ret2
 exact ⟨rfl, B3.out⟩
set_option maxRecDepth 100000 in
set_option maxHeartbeats 1000000 in
theorem tLiteral_c (s l p q r : ByteArray) (X : Int) (F : Nat) (w : World)
  (C2 : Hid (∀ W, Ct 98 #[.string s] (.string l) W))
  (C3 : Hid (∀ W, Ct 99 #[.string l] (.tuple #[.float .f64 0, .bool false]) W))
  (C4 : Hid (∀ W, Ct 100 #[.string l] (.tuple #[.agg #[.string p, .string q, .int .i64 X], .string r, .bool true]) W))
  (C5 : Hid (∀ W, Ct 101 #[.agg #[.string p, .string q, .int .i64 X]] (.float .f64 F) W))
  (t1 : r.toList.isEmpty = true) (t2 : decide (1 < (p.size : Int)) = false) :
  Ct 79 #[.string s] (.tuple #[.float .f64 F, .bool true]) w := by
 go_enter Tryz.func79, Tryz.ntmps79
 go_wp2_with fail
 refine (C2.out _).mono ?_
 rintro e w1 ⟨rfl, b1⟩
 have B1 := Lib.hid b1
 clear b1
 go_wp2_with fail
 refine (C3.out _).mono ?_
 rintro e w2 ⟨rfl, b2⟩
 have B2 := Lib.hid (below_le B1.out b2)
 clear b2
 go_wp2_with fail
 refine (C4.out _).mono ?_
 rintro e w3 ⟨rfl, b3⟩
 have B3 := Lib.hid (alloc_below (.cells #[.string p, .string q, .int .i64 X] 97) (below_le B2.out b3))
 clear b3
 go_wp2_with fail
 refine (C5.out _).mono ?_
 rintro e w4 ⟨rfl, b4⟩
 have B4 := Lib.hid (below_le B3.out b4)
 clear b4
 go_wp2
 go_ret2
 exact ⟨rfl, B4.out⟩
set_option maxRecDepth 100000 in
set_option maxHeartbeats 1000000 in
theorem tLiteral_d (s l p q r : ByteArray) (X : Int) (F : Nat) (w : World)
  (C2 : Hid (∀ W, Ct 98 #[.string s] (.string l) W))
  (C3 : Hid (∀ W, Ct 99 #[.string l] (.tuple #[.float .f64 0, .bool false]) W))
  (C4 : Hid (∀ W, Ct 100 #[.string l] (.tuple #[.agg #[.string p, .string q, .int .i64 X], .string r, .bool true]) W))
  (C5 : Hid (∀ W, Ct 101 #[.agg #[.string p, .string q, .int .i64 X]] (.float .f64 F) W))
  (t1 : r.toList.isEmpty = true) (t2 : decide (1 < (p.size : Int)) = true) (h0 : 0 < p.size) (t3 : (((p[0]'h0).toNat : Int) == 48) = false) :
  Ct 79 #[.string s] (.tuple #[.float .f64 F, .bool true]) w := by
 go_enter Tryz.func79, Tryz.ntmps79
 go_wp2_with fail
 refine (C2.out _).mono ?_
 rintro e w1 ⟨rfl, b1⟩
 have B1 := Lib.hid b1
 clear b1
 go_wp2_with fail
 refine (C3.out _).mono ?_
 rintro e w2 ⟨rfl, b2⟩
 have B2 := Lib.hid (below_le B1.out b2)
 clear b2
 go_wp2_with fail
 refine (C4.out _).mono ?_
 rintro e w3 ⟨rfl, b3⟩
 have B3 := Lib.hid (alloc_below (.cells #[.string p, .string q, .int .i64 X] 97) (below_le B2.out b3))
 clear b3
 go_wp2_with fail
 refine (C5.out _).mono ?_
 rintro e w4 ⟨rfl, b4⟩
 have B4 := Lib.hid (below_le B3.out b4)
 clear b4
 go_wp2
 go_ret2
 exact ⟨rfl, B4.out⟩
theorem head_at {l : List Nat} (hl : ∀ c ∈ l, c < 256) (h : 0 < (strOf l).size) : l.head? = some ((strOf l)[0]'h).toNat := by
 have h1 := bl_get (strOf l) 0 h
 rw [bl_strOf hl] at h1
 rw [List.head?_eq_getElem?]
 exact h1
theorem tLiteral_any (s : ByteArray) (w : World) (hs : s.size ≤ 140737488355328) :
  Ct 79 #[.string s] (.tuple #[.float .f64 (litV (nrw 0 (us s))), .bool (litB (nrw 0 (us s)))]) w := by
 have hl := nrw_lt (z := 0) (by omega) (us s)
 have hln := nrw_size (s := s) hs
 obtain ⟨l, hll⟩ : ∃ l, nrw 0 (us s) = l := ⟨_, rfl⟩
 have C2 := fun W => tnarrow_any s W hs
 rw [hll] at C2 hl hln ⊢
 have hb : ∀ c ∈ l, c < 256 := fun c hc => Nat.lt_trans (hl c hc) (by omega)
 have C3 := fun W => thexadecimal_any l W hl hln
 unfold litV
 rw [lit_eq]
 cases hx : hxB l
 ·rw [hx] at C3
  simp only [Bool.false_eq_true, if_false] at C3
  simp only [Bool.false_eq_true, if_false, Bool.false_or]
  cases hd : dB l
  ·simp only [Bool.false_and, Bool.false_eq_true, if_false]
   exact tLiteral_none _ _ w (Lib.hid C2) (Lib.hid C3) (Lib.hid (fun W => tcutDecimal_no (strOf l) W (by rw [strOf_size]; omega) (by rw [bl_strOf hb]; exact hd)))
  ·have C4 : ∀ W, Ct 100 #[.string (strOf l)] (.tuple #[.agg #[.string (strOf (dW l)), .string (strOf (dF l)), .int .i64 (dX l)], .string (strOf (dR l)), .bool true]) W := by
    intro W
    have := tcutDecimal_yes (strOf l) W (by rw [strOf_size]; omega) (by rw [bl_strOf hb]; exact hd)
    rw [bl_strOf hb] at this
    exact this
   have C5 := fun W => tfloat_dec l W (by omega)
   have hWb : ∀ c ∈ dW l, c < 256 := fun c hc => hb c (run_sub c hc)
   have hsz := strOf_size (dW l)
   rw [Bool.true_and]
   by_cases hr : dR l = []
   ·rw [hr, List.isEmpty_nil, Bool.true_and]
    rw [hr] at C4
    by_cases h1 : 1 < (dW l).length
    ·have h0 : 0 < (strOf (dW l)).size := by omega
     have hh := head_at hWb h0
     cases ho : octB l
     ·simp only [Bool.not_false, if_true]
      refine tLiteral_d _ _ _ _ _ _ _ w (Lib.hid C2) (Lib.hid C3) (Lib.hid C4) (Lib.hid C5) em_str (decide_eq_true (by omega)) h0 ?_
      rw [beq_eq_false_iff_ne]
      intro e
      have : octB l = true := (oct_whole l).2 ⟨h1, by rw [hh]; congr 1; omega⟩
      rw [ho] at this
      cases this
     ·simp only [Bool.not_true, Bool.false_eq_true, if_false]
      have h2 := ((oct_whole l).1 ho).2
      refine tLiteral_b _ _ _ _ _ _ w (Lib.hid C2) (Lib.hid C3) (Lib.hid C4) em_str (decide_eq_true (by omega)) h0 ?_
      rw [hh] at h2
      have := Option.some.inj h2
      rw [beq_iff_eq]
      omega
    ·have ho : octB l = false := by
      cases h : octB l
      ·rfl
      ·exact absurd ((oct_whole l).1 h).1 h1
     rw [ho]
     simp only [Bool.not_false, if_true]
     exact tLiteral_c _ _ _ _ _ _ _ w (Lib.hid C2) (Lib.hid C3) (Lib.hid C4) (Lib.hid C5) em_str (decide_eq_false (by omega))
   ·have he : (dR l).isEmpty = false := by
     cases h : dR l with
     | nil => exact absurd h hr
     | cons => rfl
    rw [he]
    simp only [Bool.false_and, Bool.false_eq_true, if_false]
    exact tLiteral_a _ _ _ _ _ _ w (Lib.hid C2) (Lib.hid C3) (Lib.hid C4) (str_ne hr).2
 ·rw [hx] at C3
  simp only [if_true] at C3
  simp only [if_true, Bool.true_or]
  exact tLiteral_hex _ _ _ w (Lib.hid C2) (Lib.hid C3)


end Go.Proofs.YtjmplgbhjpldbaaGreatDoor
namespace Go.Proofs.YtjmplgbhjpldbaaGreatDoor
open Go.RowKit
theorem uL_drop : ∀ (i : Nat) (l : List UInt8), uL (l.drop (2 * i)) = (uL l).drop i
 | 0, l => rfl
 | i + 1, [] => by simp [uL]
 | i + 1, [a] => by
  have : 2 * (i + 1) = 2 * i + 1 + 1 := by omega
  rw [this, List.drop_succ_cons, List.drop_nil]
  simp [uL]
 | i + 1, a :: b :: l => by
  have : 2 * (i + 1) = 2 * i + 1 + 1 := by omega
  rw [this, List.drop_succ_cons, List.drop_succ_cons, uL_drop i l, uL, List.drop_succ_cons]
theorem uL_take : ∀ (i : Nat) (l : List UInt8), uL (l.take (2 * i)) = (uL l).take i
 | 0, l => by simp [uL]
 | i + 1, [] => by simp [uL]
 | i + 1, [a] => by
  have : 2 * (i + 1) = 2 * i + 1 + 1 := by omega
  rw [this, List.take_succ_cons, List.take_nil]
  simp [uL]
 | i + 1, a :: b :: l => by
  have : 2 * (i + 1) = 2 * i + 1 + 1 := by omega
  rw [this, List.take_succ_cons, List.take_succ_cons, uL, uL_take i l, uL, List.take_succ_cons]
theorem us_part (s : ByteArray) (a b : Nat) : us (s.extract (2 * a) (2 * b)) = ((us s).drop a).take (b - a) := by
 unfold us
 rw [Lib.extract_data, show 2 * b - 2 * a = 2 * (b - a) by omega, uL_take, uL_drop]
theorem us_empty : us { data := #[] } = [] := rfl
theorem us_slS (s : ByteArray) (a b : Nat) (hb : b ≤ ln s) : us (slS s a b) = ((us s).drop a).take (b - a) := by
 rcases Nat.lt_or_ge a b with h | h
 ·rw [slS_mid s a b (by omega) (by omega) (by omega), Int.toNat_natCast, Int.toNat_natCast, us_part]
 ·have : slS s a b = { data := #[] } := by
   unfold slS
   rw [if_neg (by omega)]
  rw [this, us_empty, show b - a = 0 by omega, List.take_zero]
end Go.Proofs.YtjmplgbhjpldbaaGreatDoor
namespace Go.Proofs.YtjmplgbhjpldbaaGreatDoor
open Go.RowKit
theorem us_bL {l : List Nat} (h : ∀ u ∈ l, u < 65536) : us ⟨(bL l).toArray⟩ = l := by
 unfold us
 exact uL_bL l h
theorem even_bL {x : ByteArray} (h : x.size = 2 * ln x) : ⟨(bL (us x)).toArray⟩ = x := by
 apply ByteArray.ext
 apply Array.toList_inj.1
 show bL (us x) = x.data.toList
 unfold us
 rw [bL_uL, List.take_of_length_le]
 have h1 : x.data.toList.length = x.size := by rw [Lib.size_eq]
 unfold ln at h
 omega
theorem slS_bL (s : ByteArray) (k n : Nat) (h : k + n ≤ ln s) : slS s (k : Int) ((k + n : Nat) : Int) = ⟨(bL (((us s).drop k).take n)).toArray⟩ := by
 have h1 := us_slS s k (k + n) h
 rw [Nat.add_sub_cancel_left] at h1
 rw [← h1]
 refine (even_bL ?_).symm
 have h2 := congrArg List.length h1
 rw [us_length] at h2
 have h3 := ln_le s
 by_cases hn : n = 0
 ·subst hn
  have : slS s (k : Int) ((k + 0 : Nat) : Int) = ⟨#[]⟩ := by
   unfold slS
   rw [if_neg (by omega)]
  rw [this]
  rfl
 ·rw [slS_mid s k ((k + n : Nat) : Int) (by omega) (by omega) (by omega)]
  have h4 : (s.extract (2 * (k : Int).toNat) (2 * ((k + n : Nat) : Int).toNat)).size = 2 * n := by
   rw [ByteArray.size_extract]
   omega
  unfold ln
  rw [h4]
  omega
theorem nrw_low {z : Nat} {l : List Nat} (h : ∀ c ∈ l, c < 128) : nrw z l = l := by
 unfold nrw
 have : ∀ c ∈ l, (if 127 < c then z else c) = c := fun c hc => if_neg (by have := h c hc; omega)
 rw [List.map_congr_left this]
 simp
theorem dg_low {c : Nat} (h : dg10 c = true) : c < 128 := by
 unfold dg10 at h
 simp at h
 omega
theorem hx_low {c : Nat} (h : hx16 c = true) : c < 128 := by
 unfold hx16 at h
 have h : dgt c < 16 := by simpa using h
 unfold dgt at h
 repeat (first | omega | split at h)
theorem tw_all {f : Nat → Bool} (hf : ∀ c, f c = true → c < 128) : ∀ (l : List Nat), ∀ c ∈ l.takeWhile f, c < 128
 | [], c, hc => by simp at hc
 | a :: r, c, hc => by
  rw [List.takeWhile_cons] at hc
  cases hfa : f a with
  | false => rw [hfa] at hc; simp at hc
  | true =>
   rw [hfa] at hc
   simp at hc
   rcases hc with rfl | hc
   ·exact hf _ hfa
   ·exact tw_all hf r c hc
def Asc (l r : List Nat) : Prop := ∃ X, l = X ++ r ∧ ∀ c ∈ X, c < 128
theorem Asc.refl (l : List Nat) : Asc l l := ⟨[], rfl, by simp⟩
theorem Asc.trans {l m r : List Nat} (h : Asc l m) (g : Asc m r) : Asc l r := by
 obtain ⟨X, rfl, hX⟩ := h
 obtain ⟨Y, rfl, hY⟩ := g
 refine ⟨X ++ Y, by simp, fun c hc => ?_⟩
 rcases List.mem_append.1 hc with h | h
 ·exact hX c h
 ·exact hY c h
theorem Asc.cons {c : Nat} (hc : c < 128) (r : List Nat) : Asc (c :: r) r := ⟨[c], rfl, by simpa using hc⟩
theorem Asc.tail {l : List Nat} {c : Nat} (h : l.head? = some c) (hc : c < 128) : Asc l l.tail := by
 cases l with
 | nil => cases h
 | cons a r =>
  obtain rfl : a = c := by simpa using h
  exact Asc.cons hc r
theorem Asc.drop {f : Nat → Bool} (hf : ∀ c, f c = true → c < 128) (l : List Nat) : Asc l (l.dropWhile f) := ⟨l.takeWhile f, List.takeWhile_append_dropWhile.symm, tw_all hf l⟩
theorem Asc.take {l r : List Nat} (h : Asc l r) : ∀ c ∈ l.take (l.length - r.length), c < 128 := by
 obtain ⟨X, rfl, hX⟩ := h
 rw [List.length_append, Nat.add_sub_cancel, List.take_left]
 exact hX
theorem Asc.aft (l : List Nat) : Asc l (aft10 l) := Asc.drop (fun _ h => dg_low h) l
theorem Asc.dT (l : List Nat) : Asc l (dT l) := by
 unfold Go.Proofs.YtjmplgbhjpldbaaGreatDoor.dT
 split
 ·rename_i h
  exact ((Asc.aft l).trans (Asc.tail (c := 46) (by unfold dotB at h; simpa using h) (by omega))).trans (Asc.aft _)
 ·exact Asc.aft l
theorem Asc.unsg (l : List Nat) : Asc l (unsg l) := by
 unfold Go.Proofs.YtjmplgbhjpldbaaGreatDoor.unsg
 split
 ·rename_i h
  rcases h with h | h
  ·exact Asc.tail h (by omega)
  ·exact Asc.tail h (by omega)
 ·exact Asc.refl l
theorem Asc.expR {l : List Nat} (h : l.head? = some 101 ∨ l.head? = some 69) : Asc l (expR l) := by
 unfold Go.Proofs.YtjmplgbhjpldbaaGreatDoor.expR
 refine Asc.trans ?_ ((Asc.unsg _).trans (Asc.aft _))
 rcases h with h | h
 ·exact Asc.tail h (by omega)
 ·exact Asc.tail h (by omega)
theorem Asc.hex {l : List Nat} (h : hxA l = true) : ∀ c ∈ l.take (2 + ((l.drop 2).takeWhile hx16).length), c < 128 := by
 match l, h with
 | [], h => cases h
 | [a], h => unfold hxA at h; simp at h
 | a :: b :: r, h =>
  unfold hxA at h
  simp at h
  have h2 : Asc (a :: b :: r) (r.dropWhile hx16) := ((Asc.cons (by omega) _).trans (Asc.cons (by omega) r)).trans (Asc.drop (fun _ h => hx_low h) r)
  have h3 := h2.take
  have h4 := congrArg List.length (List.takeWhile_append_dropWhile (p := hx16) (l := r))
  rw [List.length_append] at h4
  simp only [List.length_cons] at h3
  rw [show r.length + 1 + 1 - (List.dropWhile hx16 r).length = 2 + (r.takeWhile hx16).length by omega] at h3
  exact h3
theorem numP_asc (l : List Nat) : ∀ c ∈ l.take (numP l), c < 128 := by
 unfold numP
 split
 ·rename_i h
  exact Asc.hex h
 ·split
  ·rename_i h
   exact ((Asc.dT l).trans (Asc.expR h)).take
  ·exact (Asc.dT l).take
theorem numP_le (l : List Nat) : numP l ≤ l.length := by
 unfold numP
 split
 ·rename_i h
  match l, h with
  | [], h => cases h
  | [a], h => unfold hxA at h; simp at h
  | a :: b :: r, h =>
   have h4 := (List.takeWhile_sublist hx16 (l := r)).length_le
   simp only [List.drop_succ_cons, List.drop_zero, List.length_cons]
   omega
 ·split <;> omega
def nmV (k : Nat) (l : List Nat) : Option Value := if numO l (numP l) = true then some (tkV 5 ⟨#[]⟩ (litV (l.take (numP l))) false false 0 (k + numP l)) else none
theorem part_n (u : Nat) (w : World) : Cq 70 #[.int .u16 u] (.bool (ptN u)) w := part_any u w

end Go.Proofs.YtjmplgbhjpldbaaGreatDoor
namespace Go.Proofs.YtjmplgbhjpldbaaGreatDoor
open Go.RowKit
def resW : List (List UInt8) := [[98, 114, 101, 97, 107], [99, 97, 115, 101], [99, 97, 116, 99, 104], [99, 108, 97, 115, 115], [99, 111, 110, 115, 116], [99, 111, 110, 116, 105, 110, 117, 101], [100, 101, 98, 117, 103, 103, 101, 114], [100, 101, 102, 97, 117, 108, 116], [100, 101, 108, 101, 116, 101], [100, 111], [101, 108, 115, 101], [101, 110, 117, 109], [101, 120, 112, 111, 114, 116], [101, 120, 116, 101, 110, 100, 115], [102, 97, 108, 115, 101], [102, 105, 110, 97, 108, 108, 121], [102, 111, 114], [102, 117, 110, 99, 116, 105, 111, 110], [105, 102], [105, 109, 112, 108, 101, 109, 101, 110, 116, 115], [105, 109, 112, 111, 114, 116], [105, 110], [105, 110, 115, 116, 97, 110, 99, 101, 111, 102], [105, 110, 116, 101, 114, 102, 97, 99, 101], [108, 101, 116], [110, 101, 119], [110, 117, 108, 108], [112, 97, 99, 107, 97, 103, 101], [112, 114, 105, 118, 97, 116, 101], [112, 114, 111, 116, 101, 99, 116, 101, 100], [112, 117, 98, 108, 105, 99], [114, 101, 116, 117, 114, 110], [115, 116, 97, 116, 105, 99], [115, 117, 112, 101, 114], [115, 119, 105, 116, 99, 104], [116, 104, 105, 115], [116, 104, 114, 111, 119], [116, 114, 117, 101], [116, 114, 121], [116, 121, 112, 101, 111, 102], [118, 97, 114], [118, 111, 105, 100], [119, 104, 105, 108, 101], [119, 105, 116, 104], [121, 105, 101, 108, 100]]
set_option maxRecDepth 100000 in
set_option maxHeartbeats 4000000 in
theorem xReserved_enc (s : ByteArray) (w : World) (hs : s.size ≤ 17592186044416) :
  Ct 18 #[.string s] (.bool (resW.any fun x => (⟨(encS s).toArray⟩ : ByteArray).toList == x)) w := by
 have C1 := Lib.hid (fun W => encode_any s W hs)
 obtain ⟨E, hE⟩ : ∃ E : ByteArray, (⟨(encS s).toArray⟩ : ByteArray) = E := ⟨_, rfl⟩
 rw [hE] at C1 ⊢
 clear hs hE
 go_enter Tryz.func18, Tryz.ntmps18
 go_wp2_with fail
 refine (C1.out _).mono ?_
 rintro e w' ⟨rfl, hb⟩
 go_wp2
 all_goals try go_ret
 all_goals first
  | exact ⟨by simp only [resW, List.any_cons, List.any_nil, *, Bool.true_or, Bool.false_or, Bool.or_true]; rfl, hb⟩
  | (exfalso; simp_all)


end Go.Proofs.YtjmplgbhjpldbaaGreatDoor
namespace Go.Proofs.YtjmplgbhjpldbaaGreatDoor
theorem rune_high {p : Nat} (h : 128 ≤ p) : ∃ b r, Lib.encodeRune (p : Int) = b :: r ∧ 128 ≤ b.toNat := by
 have low : ∀ x : Int, 128 ≤ x → x < 256 → 128 ≤ (x.toNat.toUInt8).toNat := by
  intro x h1 h2
  obtain ⟨n, rfl⟩ := Int.eq_ofNat_of_zero_le (show 0 ≤ x by omega)
  rw [Int.toNat_natCast]
  show 128 ≤ (UInt8.ofNat n).toNat
  rw [UInt8.toNat_ofNat']
  omega
 unfold Lib.encodeRune
 rcases Nat.lt_or_ge p 2048 with h1 | h1
 ·rw [Lib.encodeRuneZ_two (by omega) (by omega)]
  exact ⟨_, _, rfl, low _ (by omega) (by omega)⟩
 ·by_cases h2 : (2048 ≤ (p : Int) ∧ (p : Int) < 55296) ∨ (57343 < (p : Int) ∧ (p : Int) ≤ 65535)
  ·rw [Lib.encodeRuneZ_three h2]
   exact ⟨_, _, rfl, low _ (by omega) (by omega)⟩
  ·by_cases h3 : 65536 ≤ (p : Int) ∧ (p : Int) ≤ 1114111
   ·rw [Lib.encodeRuneZ_four h3.1 h3.2]
    exact ⟨_, _, rfl, low _ (by omega) (by omega)⟩
   ·rw [Lib.encodeRuneZ_bad (by omega)]
    exact ⟨_, _, rfl, low _ (by omega) (by omega)⟩
theorem rune_low {u : Nat} (h : u < 128) : Lib.encodeRune (u : Int) = [UInt8.ofNat u] := by
 unfold Lib.encodeRune
 rw [Lib.encodeRuneZ_one (by omega) (by omega)]
 show [(u : Int).toNat.toUInt8] = _
 rw [Int.toNat_natCast]
theorem drop_un (s : ByteArray) {i : Nat} (h : i < ln s) : (us s).drop i = un s i :: (us s).drop (i + 1) := by
 have hl : i < (us s).length := by rw [us_length]; exact h
 rw [List.drop_eq_getElem_cons hl, us_getElem s i hl]
theorem ofNat_inj8 {a b : Nat} (ha : a < 256) (hb : b < 256) (h : UInt8.ofNat a = UInt8.ofNat b) : a = b := by
 have := congrArg UInt8.toNat h
 rw [UInt8.toNat_ofNat', UInt8.toNat_ofNat'] at this
 omega
theorem enc_word (s : ByteArray) : ∀ (f i : Nat) (w : List Nat), (∀ c ∈ w, c < 128 ∧ c ≠ 92) → ln s ≤ i + f → (encF s f i = w.map UInt8.ofNat ↔ (us s).drop i = w)
 | 0, i, w, _, hf => by
  have hd : (us s).drop i = [] := List.drop_eq_nil_iff.2 (by rw [us_length]; omega)
  rw [hd]
  show [] = w.map UInt8.ofNat ↔ [] = w
  cases w <;> simp
 | f + 1, i, w, hw, hf => by
  rcases Nat.lt_or_ge i (ln s) with h | h
  ·have hdr := drop_un s h
   have bad : ∀ (b : UInt8) (r : List UInt8), (128 ≤ b.toNat ∨ b.toNat = 92) → ¬ b :: r = w.map UInt8.ofNat := by
    intro b r hb he
    cases w with
    | nil => cases he
    | cons c t =>
     obtain ⟨h1, h2⟩ := hw c (by simp)
     have h3 : b = UInt8.ofNat c := (List.cons.inj he).1
     rw [h3, UInt8.toNat_ofNat'] at hb
     omega
   have nob : 128 ≤ un s i → ¬ (us s).drop i = w := by
    intro hb he
    rw [hdr] at he
    have := hw (un s i) (by rw [← he]; simp)
    omega
   cases hp : prB s i
   ·rw [encF_one s f i h hp]
    unfold oneU
    by_cases hhl : (hiB (un s i) || loB (un s i)) = true
    ·have hb : 128 ≤ un s i := by
      unfold hiB loB at hhl
      simp only [Bool.or_eq_true, Bool.and_eq_true, decide_eq_true_eq] at hhl
      omega
     rw [if_pos hhl]
     constructor
     ·intro he
      exact absurd he (bad 92 _ (.inr rfl))
     ·intro he
      exact absurd he (nob hb)
    ·rw [if_neg hhl]
     rcases Nat.lt_or_ge (un s i) 128 with hu | hu
     ·rw [rune_low hu, hdr]
      show UInt8.ofNat (un s i) :: encF s f (i + 1) = _ ↔ _
      cases w with
      | nil => simp
      | cons c t =>
       have ih := enc_word s f (i + 1) t (fun d hd => hw d (by simp [hd])) (by omega)
       have hc := hw c (by simp)
       rw [List.map_cons, List.cons.injEq, List.cons.injEq, ih]
       constructor
       ·rintro ⟨h1, h2⟩
        exact ⟨ofNat_inj8 (by omega) (by omega) h1, h2⟩
       ·rintro ⟨h1, h2⟩
        exact ⟨by rw [h1], h2⟩
     ·obtain ⟨b, r, hb1, hb2⟩ := rune_high hu
      rw [hb1]
      constructor
      ·intro he
       exact absurd he (bad b _ (.inl hb2))
      ·intro he
       exact absurd he (nob hu)
   ·rw [encF_pair s f i h hp]
    obtain ⟨p1, p2, p3, p4, p5⟩ := prB_parts s i hp
    have hpp : 128 ≤ prP s i := by unfold prP; omega
    obtain ⟨b, r, hb1, hb2⟩ := rune_high hpp
    rw [hb1]
    constructor
    ·intro he
     exact absurd he (bad b _ (.inl hb2))
    ·intro he
     exact absurd he (nob (by omega))
  ·rw [encF_end s (f + 1) i (by omega)]
   have hd : (us s).drop i = [] := List.drop_eq_nil_iff.2 (by rw [us_length]; omega)
   rw [hd]
   cases w <;> simp
theorem encS_word (s : ByteArray) {w : List Nat} (hw : ∀ c ∈ w, c < 128 ∧ c ≠ 92) : encS s = w.map UInt8.ofNat ↔ us s = w := by
 have := enc_word s (ln s) 0 w hw (by omega)
 rw [List.drop_zero] at this
 exact this
theorem words_plain : ∀ w ∈ wordsL, ∀ c ∈ w, c < 128 ∧ c ≠ 92 := by decide +kernel
theorem marks_plain : ∀ w ∈ marksL, ∀ c ∈ w, c < 128 ∧ c ≠ 92 := by decide +kernel


end Go.Proofs.YtjmplgbhjpldbaaGreatDoor
namespace Go.Proofs.YtjmplgbhjpldbaaGreatDoor
open Go.RowKit
def mrkW : List (List UInt8) := [[123], [125], [40], [41], [91], [93], [46], [59], [44], [63], [58], [60], [62], [60, 61], [62, 61], [61, 61], [33, 61], [61, 61, 61], [33, 61, 61], [43], [45], [42], [47], [37], [43, 43], [45, 45], [60, 60], [62, 62], [62, 62, 62], [38], [124], [94], [33], [126], [38, 38], [124, 124], [61], [43, 61], [45, 61], [42, 61], [47, 61], [37, 61], [60, 60, 61], [62, 62, 61], [62, 62, 62, 61], [38, 61], [124, 61], [94, 61]]
set_option maxRecDepth 100000 in
set_option maxHeartbeats 4000000 in
theorem xmarks_enc (s : ByteArray) (w : World) (hs : s.size ≤ 17592186044416) :
  Ct 81 #[.string s] (.bool (mrkW.any fun x => (⟨(encS s).toArray⟩ : ByteArray).toList == x)) w := by
 have C1 := Lib.hid (fun W => encode_any s W hs)
 obtain ⟨E, hE⟩ : ∃ E : ByteArray, (⟨(encS s).toArray⟩ : ByteArray) = E := ⟨_, rfl⟩
 rw [hE] at C1 ⊢
 clear hs hE
 go_enter Tryz.func81, Tryz.ntmps81
 go_wp2_with fail
 refine (C1.out _).mono ?_
 rintro e w' ⟨rfl, hb⟩
 go_wp2
 all_goals try go_ret
 all_goals first
  | exact ⟨by simp only [mrkW, List.any_cons, List.any_nil, *, Bool.true_or, Bool.false_or, Bool.or_true]; rfl, hb⟩
  | (exfalso; simp_all)
theorem any_words {W : List (List UInt8)} {M : List (List Nat)} (h1 : ∀ x ∈ W, ∃ m ∈ M, x = m.map UInt8.ofNat) (h2 : ∀ m ∈ M, m.map UInt8.ofNat ∈ W) (hp : ∀ m ∈ M, ∀ c ∈ m, c < 128 ∧ c ≠ 92) (s : ByteArray) :
  (W.any fun x => (⟨(encS s).toArray⟩ : ByteArray).toList == x) = M.contains (us s) := by
 have e : (⟨(encS s).toArray⟩ : ByteArray).toList = encS s := by rw [Lib.toList_data]
 rw [e, Bool.eq_iff_iff, List.any_eq_true, List.contains_iff_mem]
 constructor
 ·rintro ⟨x, hx, hq⟩
  obtain ⟨m, hm, rfl⟩ := h1 x hx
  rw [(encS_word s (hp m hm)).1 (by simpa using hq)]
  exact hm
 ·intro h
  exact ⟨_, h2 _ h, by rw [(encS_word s (hp _ h)).2 rfl]; simp⟩
theorem mrk_one : ∀ x ∈ mrkW, ∃ m ∈ marksL, x = m.map UInt8.ofNat := by decide +kernel
theorem mrk_two : ∀ m ∈ marksL, m.map UInt8.ofNat ∈ mrkW := by decide +kernel
theorem res_one : ∀ x ∈ resW, ∃ m ∈ wordsL, x = m.map UInt8.ofNat := by decide +kernel
theorem res_two : ∀ m ∈ wordsL, m.map UInt8.ofNat ∈ resW := by decide +kernel
theorem xmarks_any (s : ByteArray) (w : World) (hs : s.size ≤ 17592186044416) :
  Ct 81 #[.string s] (.bool (isMark (us s))) w := by
 have h := xmarks_enc s w hs
 rw [any_words mrk_one mrk_two marks_plain] at h
 exact h
theorem xReserved_any (s : ByteArray) (w : World) (hs : s.size ≤ 17592186044416) :
  Ct 18 #[.string s] (.bool (resB (us s))) w := by
 have h := xReserved_enc s w hs
 rw [any_words res_one res_two words_plain] at h
 exact h
theorem mark_first {L : List Nat} {n : Nat} (hn : n ≤ 4) (h1 : isMark (L.take n) = true) (h2 : ∀ m, n < m → m ≤ 4 → isMark (L.take m) = false) : markL L = some (L.take n) := by
 cases hm : markL L with
 | none => rw [mark_none hm] at h1; cases h1
 | some t =>
  obtain ⟨g1, g2, g3, g4, g5⟩ := mark_some hm
  rcases Nat.lt_or_ge n t.length with h | h
  ·have := h2 _ h g2
   rw [g3, g4] at this
   cases this
  ·rw [g5 n h hn h1]
theorem mark_never {L : List Nat} (h : ∀ m, 0 < m → m ≤ 4 → isMark (L.take m) = false) : markL L = none := by
 cases hm : markL L with
 | none => rfl
 | some t =>
  obtain ⟨g1, g2, g3, g4, g5⟩ := mark_some hm
  have := h _ g1 g2
  rw [g3, g4] at this
  cases this
theorem slS_bLu (s : ByteArray) (k n : Nat) (hk : k ≤ ln s) : slS s (k : Int) ((k + n : Nat) : Int) = ⟨(bL (((us s).drop k).take n)).toArray⟩ := by
 rcases Nat.lt_or_ge (k + n) (ln s) with h | h
 ·exact slS_bL s k n (by omega)
 ·have e : slS s (k : Int) ((k + n : Nat) : Int) = slS s (k : Int) ((k + (ln s - k) : Nat) : Int) := by
   unfold slS
   rw [Int.min_eq_right (by omega), show k + (ln s - k) = ln s by omega, Int.min_self]
  rw [e, slS_bL s k _ (by omega), List.take_of_length_le (by rw [List.length_drop, us_length]; omega), List.take_of_length_le (by rw [List.length_drop, us_length]; omega)]
def mkV (k : Nat) (o : Option (List Nat)) : Option Value := o.map fun t => tkV 4 ⟨(bL t).toArray⟩ 0 false false 0 (k + t.length)
set_option maxRecDepth 100000 in
set_option maxHeartbeats 2000000 in
theorem xmark_any (s : ByteArray) (k : Nat) (w : World) (hs : s.size ≤ 140737488355328) (hk : k ≤ ln s) :
  Cp 54 #[.string s, .int .i64 k] w fun e w' => e = TokE (mkV k (markL ((us s).drop k))) ∧ Below w.heap.size w w' := by
 have hs63 : s.size ≤ maxLen := by unfold maxLen; omega
 have hln := ln_le s
 have hkl : (k : Int) ≤ 70368744177664 := by omega
 obtain ⟨L, hL⟩ : ∃ L, (us s).drop k = L := ⟨_, rfl⟩
 have CS : ∀ (i : Nat), i ≤ 3 → ∀ W, Cq 80 #[.string s, .int .i64 k, .int .i64 ((k : Int) + 4 - (i : Int))] (.string ⟨(bL (L.take (4 - i))).toArray⟩) W := fun i hi W => by
  have h := slice_any s (k : Int) ((k : Int) + 4 - (i : Int)) W hs63
  rw [show (k : Int) + 4 - (i : Int) = ((k + (4 - i) : Nat) : Int) by omega, slS_bLu s k (4 - i) hk, hL] at h
  rw [show (k : Int) + 4 - (i : Int) = ((k + (4 - i) : Nat) : Int) by omega]
  exact h
 have hX : ∀ n, n ≤ 4 → (⟨(bL (L.take n)).toArray⟩ : ByteArray).size ≤ 8 ∧ us ⟨(bL (L.take n)).toArray⟩ = L.take n := fun n hn => ⟨by
  show (bL (L.take n)).toArray.size ≤ 8
  rw [List.size_toArray, bL_length, List.length_take]
  omega, us_bL fun u hu => us_lt s u (List.mem_of_mem_drop (by rw [hL]; exact List.mem_of_mem_take hu))⟩
 have CS := Lib.hid CS
 have HX := Lib.hid hX
 rw [hL]
 obtain ⟨R, hR⟩ : ∃ R, markL L = R := ⟨_, rfl⟩
 rw [hR]
 have HR := Lib.hid hR
 have T0 := Lib.hid (TB.start w)
 clear hs hs63 hln hk hL hX hR
 go_enter Tryz.func54, Tryz.ntmps54
 go_wp2
 go_loopw [8] (fun iv wr => ∃ i : Nat, iv = .int .i64 i ∧ i ≤ 4 ∧ TB w wr ∧ Hid (∀ m, 4 - i < m → m ≤ 4 → isMark (L.take m) = false)) (fun iv _ => 4 - (intOf iv).toNat)
 case atStart => exact ⟨0, rfl, by omega, T0.out, Lib.hid (fun m h1 h2 => by omega)⟩
 case round =>
  obtain ⟨i, rfl, hi, T, HM⟩ := hrel
  by_cases h4 : i = 4
  ·have hN := mark_never (fun m h1 h2 => HM.out m (by omega) h2)
   obtain rfl : R = none := by rw [← HR.out]; exact hN
   subst h4
   have HG := Lib.hid T.bl
   have HB := Lib.hid T.bw
   clear T HM hN HX CS HR
   go_wp2_with (first | (refine wpList_store_row rfl 24 _ _ rfl w.heap.size #[.int .i64 0, .string ⟨#[]⟩, .float .f64 0, .bool false, .bool false, .int .i64 0, .int .i64 0] rfl rfl 24 #[.int .i64 0, .string ⟨#[]⟩, .float .f64 0, .bool false, .bool false, .int .i64 0, .int .i64 0] HG.out (by first | kernel_rfl | rfl) rfl (by first | kernel_rfl | rfl) ?_))
   refine bodyPost_ret (results_cell_tmp rfl _ _ _ _ _ rfl (run_loadVar_row _ w.heap.size 24 24 _ (0, 0) _ (setRow_heap _ _ _ _ _ _ HG.out) Tryz.underlying24 rfl (by first | kernel_rfl | rfl))) rfl ⟨?_, below_setRowK HB.out (Nat.le_refl _) _⟩
   rfl
  ·have hi3 : i ≤ 3 := by omega
   have C1 := Lib.hid (CS.out i hi3)
   obtain ⟨n, hn⟩ : ∃ n, 4 - i = n := ⟨_, rfl⟩
   rw [hn] at C1
   have hn4 : n ≤ 4 := by omega
   obtain ⟨X, hXe⟩ : ∃ X : ByteArray, (⟨(bL (L.take n)).toArray⟩ : ByteArray) = X := ⟨_, rfl⟩
   obtain ⟨x1, x2⟩ := HX.out n hn4
   rw [hXe] at C1 x1 x2
   have C2 := fun W => xmarks_any X W (by omega)
   have C3 := fun W => len_any X W (by unfold maxLen; omega)
   have hlX : ln X = (L.take n).length := by rw [← us_length, x2]
   have hlX4 : ln X ≤ 4 := by rw [hlX, List.length_take]; omega
   rw [x2] at C2
   have C3 := Lib.hid C3
   cases hb : isMark (L.take n)
   ·rw [hb] at C2
    have C2 := Lib.hid C2
    have HM2 : Hid (∀ m, 4 - (i + 1) < m → m ≤ 4 → isMark (L.take m) = false) := Lib.hid (fun m h1 h2 => by
     rcases Nat.lt_or_ge n m with h | h
     ·exact HM.out m (by omega) h2
     ·rw [show m = n by omega]
      exact hb)
    clear hb hXe x1 x2 hlX HM HX CS h4 hn HR
    go_wp2_with fail
    refine (C1.out _).mono ?_
    rintro e w' ⟨rfl, rfl⟩
    go_wp2_with fail
    refine (C2.out _).mono ?_
    rintro e w1 ⟨rfl, b1⟩
    have T1 := T.step b1
    clear T b1
    go_wp2
    go_roundw
    case rel => exact ⟨i + 1, by go_num, by omega, T1, HM2⟩
    case measure => simp [intOf]; omega
   ·rw [hb] at C2
    have C2 := Lib.hid C2
    have hF := mark_first hn4 hb (fun m h1 h2 => HM.out m (by omega) h2)
    obtain rfl : R = some (L.take n) := by rw [← HR.out]; exact hF
    obtain ⟨m, hm⟩ : ∃ m, ln X = m := ⟨_, rfl⟩
    rw [hm] at C3 hlX4
    have HE : Hid (TokE (mkV k (some (L.take n))) = .returned (.tuple #[.agg #[.int .i64 4, .string X, .float .f64 0, .bool false, .bool false, .int .i64 0, .int .i64 ((k : Int) + (m : Int))], .bool true])) := Lib.hid (by
     unfold TokE mkV tkV
     rw [Option.map_some, hXe, ← hlX, hm]
     simp)
    clear hb hXe x1 x2 hlX HM HX CS h4 hn hF hm HR
    go_wp2_with fail
    refine (C1.out _).mono ?_
    rintro e w' ⟨rfl, rfl⟩
    go_wp2_with fail
    refine (C2.out _).mono ?_
    rintro e w1 ⟨rfl, b1⟩
    have T1 := T.step b1
    clear T b1
    go_wp2_with fail
    refine (C3.out _).mono ?_
    rintro e w' ⟨rfl, rfl⟩
    have HG := Lib.hid T1.bl
    have HB := Lib.hid T1.bw
    clear T1
    go_wp2_with (first | (refine wpList_store_row rfl 24 _ _ rfl w.heap.size #[.int .i64 4, .string X, .float .f64 0, .bool false, .bool false, .int .i64 0, .int .i64 ((k : Int) + (m : Int))] rfl rfl 24 #[.int .i64 0, .string ⟨#[]⟩, .float .f64 0, .bool false, .bool false, .int .i64 0, .int .i64 0] HG.out (by first | kernel_rfl | rfl) rfl (by first | kernel_rfl | rfl) ?_))
    refine bodyPost_ret (results_cell_tmp rfl _ _ _ _ _ rfl (run_loadVar_row _ w.heap.size 24 24 _ (0, 0) _ (setRow_heap _ _ _ _ _ _ HG.out) Tryz.underlying24 rfl (by first | kernel_rfl | rfl))) rfl ⟨?_, below_setRowK HB.out (Nat.le_refl _) _⟩
    exact HE.out.symm

end Go.Proofs.YtjmplgbhjpldbaaGreatDoor
namespace Go.Proofs.YtjmplgbhjpldbaaGreatDoor
open Go.RowKit
def letB (k c : Nat) (o : Option Nat) : Ending :=
 if c = 117 then (match o with
  | none => .returned (.tuple #[.int .u16 0, .int .i64 ((k + 5 : Nat) : Int), .bool false])
  | some v => .returned (.tuple #[.int .u16 (v : Nat), .int .i64 ((k + 5 : Nat) : Int), .bool true]))
 else .returned (.tuple #[.int .u16 0, .int .i64 0, .bool false])
set_option maxRecDepth 100000 in
set_option maxHeartbeats 1000000 in
theorem xletter_any (s : ByteArray) (k : Nat) (w : World) (hs : s.size ≤ 140737488355328) (hk : k ≤ 140737488355327) :
  Cp 76 #[.string s, .int .i64 k] w fun e w' => e = letB k (hd0 ((us s).drop k)) (hexB 0 4 ((us s).drop (k + 1))) ∧ ∃ n, w' = w.drewN n := by
 have hs63 : s.size ≤ maxLen := by unfold maxLen; omega
 have C1 := Lib.hid (fun W => xunit_any s k W hs63)
 have C2 : ∀ W, Cp 94 #[.string s, .int .i64 ((k : Int) + 1), .int .i64 4] W fun e w' => e = hexE (hexB 0 4 ((us s).drop (k + 1))) ∧ ∃ m, w' = W.drewN m := fun W => by
  rw [show (k : Int) + 1 = ((k + 1 : Nat) : Int) by omega]; exact xhex_any s (k + 1) 4 W hs (by omega) (by omega)
 have C2 := Lib.hid C2
 have hkl : (k : Int) ≤ 140737488355327 := by omega
 obtain ⟨c, hc⟩ : ∃ c, hd0 ((us s).drop k) = c := ⟨_, rfl⟩
 obtain ⟨o, ho⟩ : ∃ o, hexB 0 4 ((us s).drop (k + 1)) = o := ⟨_, rfl⟩
 rw [hc] at C1 ⊢
 rw [ho] at C2 ⊢
 clear hs hs63 hk hc ho
 unfold letB
 by_cases h : c = 117
 ·subst h
  rw [if_pos rfl]
  cases o
  all_goals
   go_enter Tryz.func76, Tryz.ntmps76
   go_wp2_with fail
   refine (C1.out _).mono ?_
   rintro e w' ⟨rfl, n1, rfl⟩
   go_wp2_with fail
   refine (C2.out _).mono ?_
   rintro e w' ⟨rfl, n2, rfl⟩
   simp only [hexE]
   go_wp2
   go_ret3
   exact ⟨rfl, n1 + n2, by first | rfl | simp⟩
 ·rw [if_neg h]
  have g1 : (c : Int) ≠ 117 := by omega
  clear h
  go_enter Tryz.func76, Tryz.ntmps76
  go_wp2_with fail
  refine (C1.out _).mono ?_
  rintro e w' ⟨rfl, n1, rfl⟩
  go_wp2
  go_ret3
  exact ⟨rfl, n1, by first | rfl | simp⟩
set_option maxRecDepth 100000 in
theorem xfits_any (c i : Nat) (w : World) :
  Cq 42 #[.int .u16 c, .int .i64 i] (.bool (fitN (i == 0) c)) w := by
 have C1 := Lib.hid (fun W => start_any c W)
 have C2 := Lib.hid (fun W => part_any c W)
 by_cases h : i = 0
 ·subst h
  have e : fitN (0 == 0) c = stB c := rfl
  rw [e]
  clear e
  go_enter Tryz.func42, Tryz.ntmps42
  go_wp2_with fail
  refine (C1.out _).mono ?_
  rintro e w' ⟨rfl, rfl⟩
  go_wp2
  go_ret
  exact ⟨rfl, rfl⟩
 ·have e : fitN (i == 0) c = ptB c := by
   unfold fitN
   rw [if_neg (by simpa using h)]
   rfl
  rw [e]
  have g1 : (i : Int) ≠ 0 := by omega
  clear e h
  go_enter Tryz.func42, Tryz.ntmps42
  go_wp2_with fail
  refine (C2.out _).mono ?_
  rintro e w' ⟨rfl, rfl⟩
  go_wp2
  go_ret
  exact ⟨rfl, rfl⟩


end Go.Proofs.YtjmplgbhjpldbaaGreatDoor
namespace Go.Proofs.YtjmplgbhjpldbaaGreatDoor
open Go.RowKit
structure NB (w wr : World) (kd : Nat) (tx : ByteArray) (e : Bool) (p : Nat) : Prop where
 tb : TB w wr
 nb : wr.heap[w.heap.size + 1]? = some (.cells #[.int .i64 (kd : Int), .string tx, .float .f64 0, .bool e, .bool false, .int .i64 0, .int .i64 (p : Int)] 24 (0, 0))
 sz : w.heap.size + 2 ≤ wr.heap.size
theorem NB.cells {w wr : World} {kd : Nat} {tx : ByteArray} {e : Bool} {p : Nat} (h : NB w wr kd tx e p) :
  wr.cell? ⟨w.heap.size + 1, 0, none⟩ = some (.int .i64 (kd : Int)) ∧ wr.cell? ⟨w.heap.size + 1, 1, none⟩ = some (.string tx) ∧ wr.cell? ⟨w.heap.size + 1, 3, none⟩ = some (.bool e) ∧ wr.cell? ⟨w.heap.size + 1, 6, none⟩ = some (.int .i64 (p : Int)) ∧ (∀ k, wr.frozen? ⟨w.heap.size + 1, k, none⟩ = false) := by
 have h := h.nb
 refine ⟨by simp [World.cell?, h], by simp [World.cell?, h], by simp [World.cell?, h], by simp [World.cell?, h], fun k => by simp [World.frozen?, h]⟩
theorem NB.base {w w1 w2 : World} {kd : Nat} {tx : ByteArray} {e : Bool} {p : Nat} (h : NB w w1 kd tx e p) (hb : Below (w.heap.size + 2) w1 w2) : NB w w2 kd tx e p :=
 ⟨h.tb.base (hb.mono (by omega)), (hb.block _ (by omega)).trans h.nb, Nat.le_trans h.sz hb.size⟩
theorem NB.step {w w1 w2 : World} {kd : Nat} {tx : ByteArray} {e : Bool} {p : Nat} (h : NB w w1 kd tx e p) (hb : Below w1.heap.size w1 w2) : NB w w2 kd tx e p := h.base (hb.mono h.sz)
theorem NB.draw {w w1 : World} {kd : Nat} {tx : ByteArray} {e : Bool} {p : Nat} (h : NB w w1 kd tx e p) (n : Nat) : NB w (w1.drewN n) kd tx e p := h.step (below_drewN' (Below.refl _ _) n)
theorem TB.other {w wr : World} (h : TB w wr) (i : Nat) (v : Value) : TB w (wr.setCell ⟨w.heap.size + 1, i, none⟩ v) :=
 ⟨(heap_setCell_other wr ⟨w.heap.size + 1, i, none⟩ w.heap.size v (by simp)).trans h.bl, h.bw.setCell (by show w.heap.size ≤ w.heap.size + 1; omega) _, by simp only [World.setCell, Array.size_modify]; exact h.sz⟩
theorem NB.put0 {w wr : World} {kd : Nat} {tx : ByteArray} {e : Bool} {p : Nat} (h : NB w wr kd tx e p) (k : Nat) : NB w (wr.setCell ⟨w.heap.size + 1, 0, none⟩ (.int .i64 (k : Int))) k tx e p :=
 ⟨h.tb.other 0 _, by have := heap_setCell_same wr (w.heap.size + 1) 0 _ _ (.int .i64 (k : Int)) h.nb; exact this, by simp only [World.setCell, Array.size_modify]; exact h.sz⟩
theorem NB.put1 {w wr : World} {kd : Nat} {tx : ByteArray} {e : Bool} {p : Nat} (h : NB w wr kd tx e p) (t : ByteArray) : NB w (wr.setCell ⟨w.heap.size + 1, 1, none⟩ (.string t)) kd t e p :=
 ⟨h.tb.other 1 _, by have := heap_setCell_same wr (w.heap.size + 1) 1 _ _ (.string t) h.nb; exact this, by simp only [World.setCell, Array.size_modify]; exact h.sz⟩
theorem NB.put3 {w wr : World} {kd : Nat} {tx : ByteArray} {e : Bool} {p : Nat} (h : NB w wr kd tx e p) (b : Bool) : NB w (wr.setCell ⟨w.heap.size + 1, 3, none⟩ (.bool b)) kd tx b p :=
 ⟨h.tb.other 3 _, by have := heap_setCell_same wr (w.heap.size + 1) 3 _ _ (.bool b) h.nb; exact this, by simp only [World.setCell, Array.size_modify]; exact h.sz⟩
theorem NB.put6 {w wr : World} {kd : Nat} {tx : ByteArray} {e : Bool} {p : Nat} (h : NB w wr kd tx e p) (q : Nat) : NB w (wr.setCell ⟨w.heap.size + 1, 6, none⟩ (.int .i64 (q : Int))) kd tx e q :=
 ⟨h.tb.other 6 _, by have := heap_setCell_same wr (w.heap.size + 1) 6 _ _ (.int .i64 (q : Int)) h.nb; exact this, by simp only [World.setCell, Array.size_modify]; exact h.sz⟩
theorem own16_set {B : Nat} {l : List Nat} {v : Value} {w : World} (h : Own16 B l v w) {k i : Nat} (hk : k < B) (x : Value) : Own16 B l v (w.setCell ⟨k, i, none⟩ x) := by
 obtain ⟨hn, h⟩ := h
 refine ⟨hn, ?_⟩
 rcases h with h | ⟨g, cap, cur, hv, hb, hg, hr⟩
 ·exact .inl h
 ·exact .inr ⟨g, cap, cur, hv, hb, (heap_setCell_other w ⟨k, i, none⟩ g x (by show g ≠ k; omega)).trans hg, hr⟩
def lenOf : Value → Nat
 | .slice _ n _ => n
 | _ => 0
theorem own16_len {B : Nat} {l : List Nat} {v : Value} {w : World} (h : Own16 B l v w) : ∃ a cap, v = .slice a l.length cap := by
 obtain ⟨hn, h⟩ := h
 rcases h with ⟨rfl, h0⟩ | ⟨g, cap, cur, rfl, hb, hg, hr⟩
 ·exact ⟨none, 0, by rw [h0]⟩
 ·exact ⟨_, _, rfl⟩
/-! ### Names, one unit further -/
def namG (b : Bool) (l : List Nat) : Option (List Nat × Bool × Nat) := namF (l.length + 1) b l
theorem namG_cons (b : Bool) (c : Nat) (r : List Nat) : namG b (c :: r) =
  if c = 92 then
   if hd0 r = 117 then
    match hexA 0 4 r.tail with
    | none => none
    | some v => if fitN b v = true then (namG false (r.drop 5)).map fun p => (v :: p.1, true, 6 + p.2.2) else none
   else none
  else if fitN b c = true then (namG false r).map fun p => (c :: p.1, p.2.1, 1 + p.2.2)
  else some ([], false, 0) := by
 show namF ((c :: r).length + 1) b (c :: r) = _
 rw [namF]
 split
 ·split
  ·cases he : hexA 0 4 r.tail with
   | none => rfl
   | some v =>
    simp only []
    rw [nam_fuel _ ((r.drop 5).length + 1) false (r.drop 5) (by simp; omega) (by omega)]
    rfl
  ·rfl
 ·rw [nam_fuel _ (r.length + 1) false r (by simp) (by omega)]
  rfl

end Go.Proofs.YtjmplgbhjpldbaaGreatDoor
namespace Go.Proofs.YtjmplgbhjpldbaaGreatDoor
open Go.RowKit
def comE (n : Nat) : Option (Nat × Bool) → Ending
 | none => .returned (.tuple #[.int .i64 (n : Int), .bool false, .bool false])
 | some p => .returned (.tuple #[.int .i64 ((p.1 : Nat) : Int), .bool p.2, .bool true])
def comP (k : Nat) (b : Bool) (p : Nat × Bool) : Nat × Bool := (k + p.1, b || p.2)
theorem comP_next (k : Nat) (b e : Bool) (o : Option (Nat × Bool)) : (o.map fun p => (p.1 + 1, e || p.2)).map (comP k b) = o.map (comP (k + 1) (b || e)) := by
 cases o with
 | none => rfl
 | some p =>
  simp only [Option.map_some, comP, Option.some.injEq, Prod.mk.injEq]
  exact ⟨by omega, by rw [Bool.or_assoc]⟩
set_option maxRecDepth 100000 in
set_option maxHeartbeats 1000000 in
theorem xcomment_any (s : ByteArray) (k : Nat) (w : World) (hs : s.size ≤ 140737488355328) (hk : k ≤ ln s) :
  Cp 74 #[.string s, .int .i64 k] w fun e w' => e = comE (ln s) ((comL ((us s).drop k)).map (comP k false)) ∧ ∃ n, w' = w.drewN n := by
 have hs63 : s.size ≤ maxLen := by unfold maxLen; omega
 have C1 := Lib.hid (fun W => len_any s W hs63)
 have C2 := Lib.hid (fun (j : Nat) W => xunit_any s j W hs63)
 have hln := ln_le s
 have hl : ((ln s : Nat) : Int) ≤ 140737488355328 := by omega
 have hkl : (k : Int) ≤ (ln s : Int) := by omega
 obtain ⟨R, hR⟩ : ∃ R, (comL ((us s).drop k)).map (comP k false) = R := ⟨_, rfl⟩
 rw [hR]
 have HR := Lib.hid hR
 have HK := Lib.hid hk
 clear hs hs63 hln hR hk
 go_enter Tryz.func74, Tryz.ntmps74
 go_wp2
 go_loopw [1, 7] (fun v nl wr => ∃ (j : Nat) (b : Bool), v = .int .i64 j ∧ nl = .bool b ∧ j ≤ ln s ∧ Hid (R = (comL ((us s).drop j)).map (comP j b)) ∧ ∃ n, wr = w.drewN n) (fun v _ _ => ln s - (intOf v).toNat)
 case atStart => exact ⟨k, false, rfl, rfl, HK.out, Lib.hid HR.out.symm, 0, rfl⟩
 case round =>
  obtain ⟨j, b, rfl, rfl, hj, HJ, n0, rfl⟩ := hrel
  by_cases hlt : j < ln s
  ·obtain ⟨c, hc1, hc2⟩ := drop_step (L := us s) (k := j) (by rw [us_length]; exact hlt)
   have C2' := Lib.hid (fun W => C2.out j W)
   rw [hc2] at C2'
   have C2'' := Lib.hid (fun W => C2.out (j + 1) W)
   obtain ⟨d, hd⟩ : ∃ d, hd0 ((us s).drop (j + 1)) = d := ⟨_, rfl⟩
   rw [hd, show (((j + 1 : Nat) : Int)) = (j : Int) + 1 by omega] at C2''
   have C3 := Lib.hid (fun W => ends_n c W)
   have t1 : (j : Int) < (ln s : Int) := by omega
   by_cases hm : c = 42 ∧ d = 47
   ·have HJ2 : Hid (R = some (j + 2, b)) := Lib.hid (by
     rw [HJ.out, hc1]
     unfold comL
     rw [hd, if_pos hm, Option.map_some, comP, Bool.or_false])
    obtain ⟨rfl, rfl⟩ := hm
    clear hc1 hc2 hd
    go_wp2_with fail
    refine (C1.out _).mono ?_
    rintro e w' ⟨rfl, rfl⟩
    go_wp2_with fail
    refine (C2'.out _).mono ?_
    rintro e w' ⟨rfl, n1, rfl⟩
    go_wp2_with fail
    refine (C2''.out _).mono ?_
    rintro e w' ⟨rfl, n2, rfl⟩
    go_wp2
    go_ret3
    exact ⟨by rw [HJ2.out]; rfl, n0 + n1 + n2, by first | rfl | simp⟩
   ·obtain ⟨f, hf⟩ : ∃ f, enN c = f := ⟨_, rfl⟩
    rw [hf] at C3
    have HJ2 : Hid (R = (comL ((us s).drop (j + 1))).map (comP (j + 1) (b || f))) := Lib.hid (by
     rw [HJ.out, hc1]
     conv => lhs; unfold comL
     rw [hd, if_neg hm, comP_next, hf])
    clear hc1 hc2 hd hf
    have hm2 : ((c : Int) ≠ 42) ∨ (c = 42 ∧ (d : Int) ≠ 47) := by omega
    clear hm
    rcases hm2 with hm2 | ⟨rfl, hm3⟩
    ·cases b
     ·go_wp2_with fail
      refine (C1.out _).mono ?_
      rintro e w' ⟨rfl, rfl⟩
      go_wp2_with fail
      refine (C2'.out _).mono ?_
      rintro e w' ⟨rfl, n1, rfl⟩
      go_wp2_with fail
      refine (C3.out _).mono ?_
      rintro e w' ⟨rfl, rfl⟩
      go_wp2
      go_roundw
      case rel => exact ⟨j + 1, f, by go_num, rfl, by omega, HJ2, n0 + n1, by first | rfl | simp⟩
      case measure => simp [intOf]; omega
     ·go_wp2_with fail
      refine (C1.out _).mono ?_
      rintro e w' ⟨rfl, rfl⟩
      go_wp2_with fail
      refine (C2'.out _).mono ?_
      rintro e w' ⟨rfl, n1, rfl⟩
      go_wp2_with fail
      go_roundw
      case rel => exact ⟨j + 1, true, by go_num, rfl, by omega, HJ2, n0 + n1, by first | rfl | simp⟩
      case measure => simp [intOf]; omega
    ·cases b
     ·go_wp2_with fail
      refine (C1.out _).mono ?_
      rintro e w' ⟨rfl, rfl⟩
      go_wp2_with fail
      refine (C2'.out _).mono ?_
      rintro e w' ⟨rfl, n1, rfl⟩
      go_wp2_with fail
      refine (C2''.out _).mono ?_
      rintro e w' ⟨rfl, n2, rfl⟩
      go_wp2_with fail
      refine (C3.out _).mono ?_
      rintro e w' ⟨rfl, rfl⟩
      go_wp2
      go_roundw
      case rel => exact ⟨j + 1, f, by go_num, rfl, by omega, HJ2, n0 + n1 + n2, by first | rfl | simp⟩
      case measure => simp [intOf]; omega
     ·go_wp2_with fail
      refine (C1.out _).mono ?_
      rintro e w' ⟨rfl, rfl⟩
      go_wp2_with fail
      refine (C2'.out _).mono ?_
      rintro e w' ⟨rfl, n1, rfl⟩
      go_wp2_with fail
      refine (C2''.out _).mono ?_
      rintro e w' ⟨rfl, n2, rfl⟩
      go_wp2_with fail
      go_roundw
      case rel => exact ⟨j + 1, true, by go_num, rfl, by omega, HJ2, n0 + n1 + n2, by first | rfl | simp⟩
      case measure => simp [intOf]; omega
  ·have hj2 : j = ln s := by omega
   have HJ2 : Hid (R = none) := Lib.hid (by
    rw [HJ.out, List.drop_eq_nil_iff.2 (by rw [us_length]; omega)]
    rfl)
   have t1 : ¬ (j : Int) < (ln s : Int) := by omega
   go_wp2_with (go_at_call 29; refine (C1.out _).mono ?_; rintro e w' ⟨rfl, rfl⟩)
   go_ret3
   exact ⟨by rw [HJ2.out]; rfl, n0, rfl⟩


end Go.Proofs.YtjmplgbhjpldbaaGreatDoor
namespace Go.Proofs.YtjmplgbhjpldbaaGreatDoor
open Go.RowKit
theorem drop_two {L : List Nat} {k : Nat} {c : Nat} {r : List Nat} (h : L.drop k = c :: r) : L.drop (k + 1) = r ∧ L.drop (k + 2) = r.tail := by
 constructor
 ·rw [← List.drop_drop, h]
  rfl
 ·rw [← List.drop_drop, h]
  cases r <;> rfl
theorem gapL_at (L : List Nat) (k : Nat) : gapL (L.drop k) =
  if enN (hd0 (L.drop k)) = true then some (1, true)
  else if spN (hd0 (L.drop k)) = true then some (1, false)
  else if hd0 (L.drop k) = 47 ∧ hd0 (L.drop (k + 1)) = 47 then some (2 + remL (L.drop (k + 2)), false)
  else if hd0 (L.drop k) = 47 ∧ hd0 (L.drop (k + 1)) = 42 then (comL (L.drop (k + 2))).map fun p => (2 + p.1, p.2)
  else some (0, false) := by
 rcases hd : L.drop k with _ | ⟨c, r⟩
 ·have h0 : hd0 ([] : List Nat) = 0 := rfl
  rw [h0, if_neg (by decide), if_neg (by decide), if_neg (by omega), if_neg (by omega)]
  rfl
 ·obtain ⟨h1, h2⟩ := drop_two hd
  have h0 : hd0 (c :: r) = c := rfl
  rw [h0, h1, h2]
  rfl
theorem hd0_lt {L : List Nat} {k : Nat} (h : hd0 (L.drop k) ≠ 0) : k < L.length := by
 rcases Nat.lt_or_ge k L.length with h1 | h1
 ·exact h1
 ·exact absurd (by rw [List.drop_eq_nil_iff.2 h1]; rfl) h
set_option maxRecDepth 100000 in
set_option maxHeartbeats 1000000 in
theorem xgap_any (s : ByteArray) (k : Nat) (w : World) (hs : s.size ≤ 140737488355328) (hk : k ≤ ln s) :
  Cp 47 #[.string s, .int .i64 k] w fun e w' => e = comE (ln s) ((gapL ((us s).drop k)).map (comP k false)) ∧ ∃ n, w' = w.drewN n := by
 have hs63 : s.size ≤ maxLen := by unfold maxLen; omega
 have hln := ln_le s
 have hkl : (k : Int) ≤ 140737488355328 := by omega
 have C1 := Lib.hid (fun W => xunit_any s k W hs63)
 have C2 := Lib.hid (fun W => xunit_any s (k + 1) W hs63)
 have C5 : k + 2 ≤ ln s → ∀ W, Cp 73 #[.string s, .int .i64 ((k : Int) + 2)] W fun e w' => e = .returned (.int .i64 ((k + 2 + remL ((us s).drop (k + 2)) : Nat) : Int)) ∧ ∃ n, w' = W.drewN n := fun h W => by
  rw [show (k : Int) + 2 = ((k + 2 : Nat) : Int) by omega]; exact xremark_any s (k + 2) W hs h
 have C6 : k + 2 ≤ ln s → ∀ W, Cp 74 #[.string s, .int .i64 ((k : Int) + 2)] W fun e w' => e = comE (ln s) ((comL ((us s).drop (k + 2))).map (comP (k + 2) false)) ∧ ∃ n, w' = W.drewN n := fun h W => by
  rw [show (k : Int) + 2 = ((k + 2 : Nat) : Int) by omega]; exact xcomment_any s (k + 2) W hs h
 have C5 := Lib.hid C5
 have C6 := Lib.hid C6
 have h2 : hd0 ((us s).drop (k + 1)) ≠ 0 → k + 2 ≤ ln s := fun h => by have := hd0_lt h; rw [us_length] at this; omega
 rw [gapL_at]
 obtain ⟨c, hc⟩ : ∃ c, hd0 ((us s).drop k) = c := ⟨_, rfl⟩
 obtain ⟨d, hd⟩ : ∃ d, hd0 ((us s).drop (k + 1)) = d := ⟨_, rfl⟩
 rw [hc] at C1 ⊢
 rw [hd, show (((k + 1 : Nat) : Int)) = (k : Int) + 1 by omega] at C2
 rw [hd] at h2 ⊢
 have C3 := Lib.hid (fun W => ends_n c W)
 have C4 := Lib.hid (fun W => space_n c W)
 clear hs hs63 hln hk hc hd
 cases he : enN c
 ·rw [he] at C3
  cases hsp : spN c
  ·rw [hsp] at C4
   rw [if_neg (by simp), if_neg (by simp)]
   clear he hsp
   by_cases h47 : c = 47
   ·subst h47
    by_cases hd47 : d = 47
    ·subst hd47
     have C5' := Lib.hid (C5.out (h2 (by omega)))
     obtain ⟨m, hm⟩ : ∃ m, remL ((us s).drop (k + 2)) = m := ⟨_, rfl⟩
     rw [if_pos ⟨rfl, rfl⟩, hm]
     rw [hm] at C5'
     clear hm C5 C6 h2
     go_enter Tryz.func47, Tryz.ntmps47
     go_wp2_with fail
     refine (C1.out _).mono ?_
     rintro e w' ⟨rfl, n1, rfl⟩
     go_wp2_with fail
     refine (C3.out _).mono ?_
     rintro e w' ⟨rfl, rfl⟩
     go_wp2_with fail
     refine (C4.out _).mono ?_
     rintro e w' ⟨rfl, rfl⟩
     go_wp2_with fail
     refine (C2.out _).mono ?_
     rintro e w' ⟨rfl, n2, rfl⟩
     go_wp2_with fail
     refine (C5'.out _).mono ?_
     rintro e w' ⟨rfl, n3, rfl⟩
     go_wp2
     go_ret3
     refine ⟨?_, n1 + n2 + n3, by first | rfl | simp⟩
     simp only [Option.map_some, comP, comE, Bool.false_or]
     rw [show k + (2 + m) = k + 2 + m by omega]
     rfl
    ·rw [if_neg (by omega)]
     by_cases hd42 : d = 42
     ·subst hd42
      have C6' := Lib.hid (C6.out (h2 (by omega)))
      obtain ⟨o, ho⟩ : ∃ o, comL ((us s).drop (k + 2)) = o := ⟨_, rfl⟩
      rw [if_pos ⟨rfl, rfl⟩, ho]
      rw [ho] at C6'
      have hE : comE (ln s) ((o.map fun p => (2 + p.1, p.2)).map (comP k false)) = comE (ln s) (o.map (comP (k + 2) false)) := by
       cases o with
       | none => rfl
       | some p => simp only [Option.map_some, comP]; rw [show k + (2 + p.1) = k + 2 + p.1 by omega]
      rw [hE]
      clear ho C5 C6 h2 hE hd47
      go_enter Tryz.func47, Tryz.ntmps47
      go_wp2_with fail
      refine (C1.out _).mono ?_
      rintro e w' ⟨rfl, n1, rfl⟩
      go_wp2_with fail
      refine (C3.out _).mono ?_
      rintro e w' ⟨rfl, rfl⟩
      go_wp2_with fail
      refine (C4.out _).mono ?_
      rintro e w' ⟨rfl, rfl⟩
      go_wp2_with fail
      refine (C2.out _).mono ?_
      rintro e w' ⟨rfl, n2, rfl⟩
      go_wp2_with fail
      refine (C2.out _).mono ?_
      rintro e w' ⟨rfl, n3, rfl⟩
      go_wp2_with fail
      refine (C6'.out _).mono ?_
      rintro e w' ⟨rfl, n4, rfl⟩
      cases o
      ·simp only [Option.map_none, comE]
       go_wp2
       go_ret3
       exact ⟨rfl, n1 + n2 + n3 + n4, by first | rfl | simp⟩
      ·simp only [Option.map_some, comE]
       go_wp2
       go_ret3
       exact ⟨rfl, n1 + n2 + n3 + n4, by first | rfl | simp⟩
     ·rw [if_neg (by omega)]
      have g1 : (d : Int) ≠ 47 := by omega
      have g2 : (d : Int) ≠ 42 := by omega
      clear C5 C6 h2 hd47 hd42
      go_enter Tryz.func47, Tryz.ntmps47
      go_wp2_with fail
      refine (C1.out _).mono ?_
      rintro e w' ⟨rfl, n1, rfl⟩
      go_wp2_with fail
      refine (C3.out _).mono ?_
      rintro e w' ⟨rfl, rfl⟩
      go_wp2_with fail
      refine (C4.out _).mono ?_
      rintro e w' ⟨rfl, rfl⟩
      go_wp2_with fail
      refine (C2.out _).mono ?_
      rintro e w' ⟨rfl, n2, rfl⟩
      go_wp2_with fail
      refine (C2.out _).mono ?_
      rintro e w' ⟨rfl, n3, rfl⟩
      go_wp2
      go_ret3
      exact ⟨rfl, n1 + n2 + n3, by first | rfl | simp⟩
   ·rw [if_neg (by omega), if_neg (by omega)]
    have g1 : (c : Int) ≠ 47 := by omega
    clear C5 C6 h2 h47
    go_enter Tryz.func47, Tryz.ntmps47
    go_wp2_with fail
    refine (C1.out _).mono ?_
    rintro e w' ⟨rfl, n1, rfl⟩
    go_wp2_with fail
    refine (C3.out _).mono ?_
    rintro e w' ⟨rfl, rfl⟩
    go_wp2_with fail
    refine (C4.out _).mono ?_
    rintro e w' ⟨rfl, rfl⟩
    go_wp2
    go_ret3
    exact ⟨rfl, n1, by first | rfl | simp⟩
  ·rw [hsp] at C4
   rw [if_neg (by simp), if_pos (by rfl)]
   clear he hsp C5 C6 h2
   go_enter Tryz.func47, Tryz.ntmps47
   go_wp2_with fail
   refine (C1.out _).mono ?_
   rintro e w' ⟨rfl, n1, rfl⟩
   go_wp2_with fail
   refine (C3.out _).mono ?_
   rintro e w' ⟨rfl, rfl⟩
   go_wp2_with fail
   refine (C4.out _).mono ?_
   rintro e w' ⟨rfl, rfl⟩
   go_wp2
   go_ret3
   exact ⟨rfl, n1, by first | rfl | simp⟩
 ·rw [he] at C3
  rw [if_pos (by rfl)]
  clear he C5 C6 h2
  go_enter Tryz.func47, Tryz.ntmps47
  go_wp2_with fail
  refine (C1.out _).mono ?_
  rintro e w' ⟨rfl, n1, rfl⟩
  go_wp2_with fail
  refine (C3.out _).mono ?_
  rintro e w' ⟨rfl, rfl⟩
  go_wp2
  go_ret3
  exact ⟨rfl, n1, by first | rfl | simp⟩


end Go.Proofs.YtjmplgbhjpldbaaGreatDoor
namespace Go.Proofs.YtjmplgbhjpldbaaGreatDoor
open Go.RowKit
theorem NB.start (w : World) (k : Nat) : NB w (((w.alloc (.cells #[.int .i64 0, .string ⟨#[]⟩, .float .f64 0, .bool false, .bool false, .int .i64 0, .int .i64 0] 24)).alloc (.cells #[.int .i64 0, .string ⟨#[]⟩, .float .f64 0, .bool false, .bool false, .int .i64 0, .int .i64 0] 24)).setRow (w.heap.size + 1) #[.int .i64 2, .string ⟨#[]⟩, .float .f64 0, .bool false, .bool false, .int .i64 0, .int .i64 (k : Int)]) 2 ⟨#[]⟩ false k := by
 have h1 := (TB.start w).step ((Below.refl _ _).alloc (Nat.le_refl _) (.cells #[.int .i64 0, .string ⟨#[]⟩, .float .f64 0, .bool false, .bool false, .int .i64 0, .int .i64 0] 24))
 obtain ⟨V, hV⟩ : ∃ V, w.alloc (.cells #[.int .i64 0, .string ⟨#[]⟩, .float .f64 0, .bool false, .bool false, .int .i64 0, .int .i64 0] 24) = V := ⟨_, rfl⟩
 have hs : V.heap.size = w.heap.size + 1 := by rw [← hV]; simp
 rw [hV] at h1 ⊢
 have h2 := heap_alloc_last V (.cells #[.int .i64 0, .string ⟨#[]⟩, .float .f64 0, .bool false, .bool false, .int .i64 0, .int .i64 0] 24)
 rw [hs] at h2
 exact ⟨h1.base (below_setRowK (Below.refl _ _) (Nat.le_refl _) _), setRow_heap _ _ _ _ _ _ h2, by rw [setRow_size]; simp; omega⟩
theorem NB.first (w : World) : ((w.alloc (.cells #[.int .i64 0, .string ⟨#[]⟩, .float .f64 0, .bool false, .bool false, .int .i64 0, .int .i64 0] 24)).alloc (.cells #[.int .i64 0, .string ⟨#[]⟩, .float .f64 0, .bool false, .bool false, .int .i64 0, .int .i64 0] 24)).heap[w.heap.size + 1]? = some (.cells #[.int .i64 0, .string ⟨#[]⟩, .float .f64 0, .bool false, .bool false, .int .i64 0, .int .i64 0] 24 (0, 0)) := by
 have h2 := heap_alloc_last (w.alloc (.cells #[.int .i64 0, .string ⟨#[]⟩, .float .f64 0, .bool false, .bool false, .int .i64 0, .int .i64 0] 24)) (.cells #[.int .i64 0, .string ⟨#[]⟩, .float .f64 0, .bool false, .bool false, .int .i64 0, .int .i64 0] 24)
 rw [show (w.alloc (.cells #[.int .i64 0, .string ⟨#[]⟩, .float .f64 0, .bool false, .bool false, .int .i64 0, .int .i64 0] 24)).heap.size = w.heap.size + 1 by simp] at h2
 exact h2
def namR (j : Nat) (l : List Nat) (e : Bool) (s : ByteArray) : Option (List Nat × Bool × Nat) := (namG (l.length == 0) ((us s).drop j)).map fun p => (l ++ p.1, e || p.2.1, j + p.2.2)
def namV (o : Option (List Nat × Bool × Nat)) : Option Value := o.map fun p => tkV (if resB p.1 = true then 3 else 2) ⟨(bL p.1).toArray⟩ 0 p.2.1 false 0 p.2.2
theorem namG_at (b : Bool) (L : List Nat) (j : Nat) : namG b (L.drop j) =
  if hd0 (L.drop j) = 92 then
   if hd0 (L.drop (j + 1)) = 117 then
    match hexB 0 4 (L.drop (j + 2)) with
    | none => none
    | some v => if fitN b v = true then (namG false (L.drop (j + 6))).map fun p => (v :: p.1, true, 6 + p.2.2) else none
   else none
  else if fitN b (hd0 (L.drop j)) = true then (namG false (L.drop (j + 1))).map fun p => (hd0 (L.drop j) :: p.1, p.2.1, 1 + p.2.2)
  else some ([], false, 0) := by
 rcases hd : L.drop j with _ | ⟨c, r⟩
 ·have h0 : hd0 ([] : List Nat) = 0 := rfl
  rw [h0, if_neg (by omega), if_neg (by cases b <;> decide)]
  rfl
 ·obtain ⟨h1, h2⟩ := drop_two hd
  have h0 : hd0 (c :: r) = c := rfl
  rw [namG_cons, h0, h1, h2, ← hexA_B 3 0, show L.drop (j + 6) = r.drop 5 by rw [← h1, List.drop_drop]]
  try rfl
theorem hex_len {v : Nat} {l : List Nat} (h : hexB 0 4 l = some v) : 4 ≤ l.length ∧ v < 65536 := by
 rw [← hexA_B 3 0] at h
 exact ⟨hexA_len h, hexA_lt h (by omega)⟩
theorem NB.all {w wr : World} {kd : Nat} {tx : ByteArray} {e : Bool} {p : Nat} (h : NB w wr kd tx e p) :
  wr.cell? ⟨w.heap.size + 1, 0, none⟩ = some (.int .i64 (kd : Int)) ∧ wr.cell? ⟨w.heap.size + 1, 1, none⟩ = some (.string tx) ∧ wr.cell? ⟨w.heap.size + 1, 2, none⟩ = some (.float .f64 0) ∧ wr.cell? ⟨w.heap.size + 1, 3, none⟩ = some (.bool e) ∧ wr.cell? ⟨w.heap.size + 1, 4, none⟩ = some (.bool false) ∧ wr.cell? ⟨w.heap.size + 1, 5, none⟩ = some (.int .i64 0) ∧ wr.cell? ⟨w.heap.size + 1, 6, none⟩ = some (.int .i64 (p : Int)) := by
 have h := h.nb
 refine ⟨by simp [World.cell?, h], by simp [World.cell?, h], by simp [World.cell?, h], by simp [World.cell?, h], by simp [World.cell?, h], by simp [World.cell?, h], by simp [World.cell?, h]⟩
def NmP (w : World) (s : ByteArray) (j : Nat) (l : List Nat) (e : Bool) (v : Value) (wr : World) (R : Option (List Nat × Bool × Nat)) : Prop :=
 l.length ≤ j ∧ (∀ u ∈ l, u < 65536) ∧ namR j l e s = R ∧ NB w wr 2 ⟨#[]⟩ e j ∧ Own16 (w.heap.size + 2) l v wr
set_option maxRecDepth 100000 in
set_option maxHeartbeats 12000000 in
theorem xname_any (s : ByteArray) (k : Nat) (w : World) (hs : s.size ≤ 4398046511104) (hk : k ≤ ln s) :
  Cp 50 #[.string s, .int .i64 k] w fun e w' => e = TokE (namV (namR k [] false s)) ∧ Below w.heap.size w w' := by
 have hs63 : s.size ≤ maxLen := by unfold maxLen; omega
 obtain ⟨i0, hi, hz0, hz1, hz2⟩ := info_parts info_u16
 have hln := ln_le s
 have CU := Lib.hid (fun (j : Nat) W => xunit_any s j W hs63)
 have CF := Lib.hid (fun (c i : Nat) W => xfits_any c i W)
 have CL := Lib.hid (fun (j : Nat) (hj : j ≤ ln s) W => xletter_any s (j + 1) W (by omega) (by omega))
 obtain ⟨R, hR⟩ : ∃ R, namR k [] false s = R := ⟨_, rfl⟩
 rw [hR]
 have HR := Lib.hid hR
 have HL := Lib.hid (show ln s ≤ 2199023255552 by omega)
 have HN0 := Lib.hid (NB.start w k)
 have HN1 := Lib.hid (NB.first w)
 have HK := Lib.hid hk
 clear hs hs63 hR hln hk
 go_enter Tryz.func50, Tryz.ntmps50
 go_wp2_with (first | (refine wpList_store_row rfl 24 _ _ rfl (w.heap.size + 1) #[.int .i64 2, .string ⟨#[]⟩, .float .f64 0, .bool false, .bool false, .int .i64 0, .int .i64 (k : Int)] rfl rfl 24 #[.int .i64 0, .string ⟨#[]⟩, .float .f64 0, .bool false, .bool false, .int .i64 0, .int .i64 0] HN1.out (by first | kernel_rfl | rfl) rfl (by first | kernel_rfl | rfl) ?_))
 go_frame
 go_loopw [6] (fun lv wr => ∃ (j : Nat) (l : List Nat) (v : Value) (esc : Bool), lv = v ∧ j ≤ ln s ∧ Hid (NmP w s j l esc v wr R)) (fun lv _ => ln s + 1 - lenOf lv)
 case atStart => exact ⟨k, [], _, false, rfl, HK.out, Lib.hid ⟨by simp, by simp, HR.out, HN0.out, Own16.nil _ _⟩⟩
 case round =>
  obtain ⟨j, l, v, esc, hv, hj, HJ⟩ := hrel
  obtain rfl := hv.symm
  obtain ⟨h1, h2, h3, NB0, H⟩ := HJ.out
  have HJ1 := Lib.hid h1
  have HJ2 := Lib.hid h2
  have HJ3 := Lib.hid hj
  have hl1 := own16_len H
  obtain ⟨a, cap, rfl⟩ := hl1
  obtain ⟨c0, c1, c3, c6, fz⟩ := NB0.cells
  have f6 := fz 6
  have hjl : (j : Int) ≤ 2199023255552 := by have := HL.out; omega
  have HLT : Hid (lenOf (.slice a l.length cap) ≤ ln s) := Lib.hid (by show l.length ≤ ln s; omega)
  have hll : (l.length : Int) ≤ 2199023255552 := by have := HL.out; omega
  have hsz := NB0.sz
  obtain ⟨c, hc⟩ : ∃ c, hd0 ((us s).drop j) = c := ⟨_, rfl⟩
  have C1 := CU.out j
  rw [hc] at C1
  have C1 := Lib.hid C1
  have h4 : R = (namG (l.length == 0) ((us s).drop j)).map fun p => (l ++ p.1, esc || p.2.1, j + p.2.2) := by rw [← h3]; rfl
  rw [namG_at, hc] at h4
  obtain ⟨b0, hb0⟩ : ∃ b0, (l.length == 0) = b0 := ⟨_, rfl⟩
  have CF1 := fun x W => CF.out x l.length W
  rw [hb0] at h4 CF1
  have hcl : c ≠ 0 → j + 1 ≤ ln s := fun h => by
   have := hd0_lt (L := us s) (k := j) (by rw [hc]; exact h)
   rw [us_length] at this
   exact this
  have hcu : c < 65536 := by
   by_cases h0 : c = 0
   ·omega
   ·obtain ⟨x, g1, g2⟩ := drop_step (L := us s) (k := j) (by rw [us_length]; exact hcl h0)
    rw [hc] at g2
    subst g2
    exact us_lt s c (List.mem_of_mem_drop (by rw [g1]; simp))
  have CF1 := Lib.hid CF1
  clear fz c0 c1 HJ h1 h2 h3 hj hc hb0
  by_cases h92 : c = 92
  ·rw [if_pos h92] at h4
   subst h92
   have CL1 := CL.out j HJ3.out
   obtain ⟨d, hd⟩ : ∃ d, hd0 ((us s).drop (j + 1)) = d := ⟨_, rfl⟩
   obtain ⟨o, ho⟩ : ∃ o, hexB 0 4 ((us s).drop (j + 2)) = o := ⟨_, rfl⟩
   rw [hd, ho] at h4
   rw [hd, show j + 1 + 1 = j + 2 by omega, ho] at CL1
   by_cases h117 : d = 117
   ·rw [if_pos h117] at h4
    subst h117
    cases o with
    | none =>
     obtain rfl : R = none := h4
     have CL2 := Lib.hid (show ∀ W, Cp 76 #[.string s, .int .i64 ((j : Int) + 1)] W fun e w' => e = .returned (.tuple #[.int .u16 0, .int .i64 ((j + 1 + 5 : Nat) : Int), .bool false]) ∧ ∃ n, w' = W.drewN n from CL1)
     clear CL1 hd ho HR hcl hcu hll hsz
     go_wp2
     go_quiet ((go_at_call 31; exact Calls.quiet_of (C1.out _)))
     go_wp2_with fail
     refine (CL2.out _).mono ?_
     rintro e w' ⟨rfl, n1, rfl⟩
     have T2 := (NB0.draw (nq + n1)).tb
     have HG := Lib.hid T2.bl
     have HB := Lib.hid T2.bw
     clear T2 NB0 H c3 c6 f6
     go_wp2_with (first | (refine wpList_store_row rfl 24 _ _ rfl w.heap.size #[.int .i64 0, .string ⟨#[]⟩, .float .f64 0, .bool false, .bool false, .int .i64 0, .int .i64 0] rfl rfl 24 #[.int .i64 0, .string ⟨#[]⟩, .float .f64 0, .bool false, .bool false, .int .i64 0, .int .i64 0] HG.out (by first | kernel_rfl | rfl) rfl (by first | kernel_rfl | rfl) ?_))
     refine bodyPost_ret (results_cell_tmp rfl _ _ _ _ _ rfl (run_loadVar_row _ w.heap.size 24 24 _ (0, 0) _ (setRow_heap _ _ _ _ _ _ HG.out) Tryz.underlying24 rfl (by first | kernel_rfl | rfl))) rfl ⟨?_, below_setRowK HB.out (Nat.le_refl _) _⟩
     rfl
    | some x =>
     obtain ⟨g1, g2⟩ := hex_len ho
     rw [List.length_drop, us_length] at g1
     have CL2 := Lib.hid (show ∀ W, Cp 76 #[.string s, .int .i64 ((j : Int) + 1)] W fun e w' => e = .returned (.tuple #[.int .u16 (x : Nat), .int .i64 ((j + 1 + 5 : Nat) : Int), .bool true]) ∧ ∃ n, w' = W.drewN n from CL1)
     have CF2 := CF1.out x
     cases hf : fitN b0 x
     ·rw [hf] at CF2
      have h4 : R = none := by rw [h4]; simp [hf]
      subst h4
      have CF2 := Lib.hid CF2
      clear CL1 hd ho HR hf hcl hcu g1 g2 hsz
      go_wp2
      go_quiet ((go_at_call 31; exact Calls.quiet_of (C1.out _)))
      go_wp2_with fail
      refine (CL2.out _).mono ?_
      rintro e w' ⟨rfl, n1, rfl⟩
      go_wp2_with fail
      refine (CF2.out _).mono ?_
      rintro e w' ⟨rfl, rfl⟩
      have T2 := (NB0.draw (nq + n1)).tb
      have HG := Lib.hid T2.bl
      have HB := Lib.hid T2.bw
      clear T2 NB0 H c3 c6 f6
      go_wp2_with (first | (refine wpList_store_row rfl 24 _ _ rfl w.heap.size #[.int .i64 0, .string ⟨#[]⟩, .float .f64 0, .bool false, .bool false, .int .i64 0, .int .i64 0] rfl rfl 24 #[.int .i64 0, .string ⟨#[]⟩, .float .f64 0, .bool false, .bool false, .int .i64 0, .int .i64 0] HG.out (by first | kernel_rfl | rfl) rfl (by first | kernel_rfl | rfl) ?_))
      refine bodyPost_ret (results_cell_tmp rfl _ _ _ _ _ rfl (run_loadVar_row _ w.heap.size 24 24 _ (0, 0) _ (setRow_heap _ _ _ _ _ _ HG.out) Tryz.underlying24 rfl (by first | kernel_rfl | rfl))) rfl ⟨?_, below_setRowK HB.out (Nat.le_refl _) _⟩
      rfl
     ·rw [hf] at CF2
      have CF2 := Lib.hid CF2
      have hj6 : j + 6 ≤ ln s := by omega
      have HN : Hid (namR (j + 6) (l ++ [x]) true s = R) := Lib.hid (by
       rw [h4]
       simp only [hf, if_true]
       unfold namR
       rw [show ((l ++ [x]).length == 0) = false by simp]
       cases namG false ((us s).drop (j + 6)) with
       | none => rfl
       | some p => simp; omega)
      have HU : Hid ((l ++ [x]).length ≤ j + 6 ∧ ∀ u ∈ l ++ [x], u < 65536) := Lib.hid ⟨by rw [List.length_append, List.length_singleton]; have := HJ1.out; omega, fun u hu => by
       rcases List.mem_append.1 hu with h | h
       ·exact HJ2.out u h
       ·simp at h; omega⟩
      have HJ6 := Lib.hid hj6
      obtain ⟨q, hq⟩ : ∃ q, j + 6 = q := ⟨_, rfl⟩
      have e6 : j + 1 + 5 = q := by omega
      rw [e6] at CL2
      rw [hq] at HN HU HJ6
      clear CL1 hd ho HR hf h4 hcl hcu g1 g2 hj6 hq e6
      cases esc
      all_goals
       go_wp2
       go_quiet ((go_at_call 31; exact Calls.quiet_of (C1.out _)))
       go_wp2_with fail
       refine (CL2.out _).mono ?_
       rintro e w' ⟨rfl, n1, rfl⟩
       go_wp2_with fail
       refine (CF2.out _).mono ?_
       rintro e w' ⟨rfl, rfl⟩
       go_wp2_with (at_builtin; refine wpList_append_own _ rfl _ _ 42 rfl (w.heap.size + 2) 47 i0 (.int .u16 0) 1 2 Tryz.underlying42 hi hz0 hz1 hz2 rfl (by decide) _ _ _ rfl (World.ownsRow.alloc (w := (wr.drewN (nq + n1))) H _) ⟨(wr.drewN (nq + n1)).heap.size, 0, none⟩ 1 1 [.int .u16 (x : Nat)] rfl rfl ?c1 ?c2 ?c3 ?c4 ?c5 ?_)
       case c1 => exact (cell_one_new _ _ _)
       case c2 => simp [Value.oneCell']
       case c3 => unfold maxLen; omega
       case c4 => omega
       case c5 => simp; omega
       intro v' w1 hown hg _
       have hbw : Below (w.heap.size + 2) wr w1 := ((below_drewN' (Below.refl _ wr) (nq + n1)).alloc (by simpa using hsz) _).grown hg (by simp; omega) (fun j hj => (World.ownsRow.lt H j hj).1)
       have NB1 := NB0.base hbw
       obtain ⟨c0, c1, d3, d6, fz⟩ := NB1.cells
       have f3 := fz 3
       have f6 := fz 6
       have o1 : Own16 (w.heap.size + 2) (l ++ [x]) v' w1 := by simpa [Own16] using hown
       have HX : Hid (NmP w s q (l ++ [x]) true v' ((w1.setCell ⟨w.heap.size + 1, 6, none⟩ (.int .i64 (q : Int))).setCell ⟨w.heap.size + 1, 3, none⟩ (.bool true)) R) := Lib.hid ⟨HU.out.1, HU.out.2, HN.out, (NB1.put6 q).put3 true, own16_set (own16_set o1 (by omega) _) (by omega) _⟩
       have HW := Lib.hid (own16_len o1)
       clear NB0 NB1 hbw hown hg H o1 fz c0 c1 c3 c6
       go_wp2
       go_roundw
       case rel => exact ⟨q, l ++ [x], v', true, rfl, HJ6.out, HX⟩
       case measure =>
        obtain ⟨a', cap', rfl⟩ := HW.out
        have := HLT.out
        simp [lenOf] at this ⊢
        omega
   ·rw [if_neg h117] at h4
    obtain rfl : R = none := h4
    have CL2 := Lib.hid (show ∀ W, Cp 76 #[.string s, .int .i64 ((j : Int) + 1)] W fun e w' => e = .returned (.tuple #[.int .u16 0, .int .i64 0, .bool false]) ∧ ∃ n, w' = W.drewN n from fun W => (CL1 W).mono fun e w' ⟨he, hw⟩ => ⟨by rw [he]; unfold letB; rw [if_neg h117], hw⟩)
    clear CL1 hd ho HR h117 hcl hcu hll hsz
    go_wp2
    go_quiet ((go_at_call 31; exact Calls.quiet_of (C1.out _)))
    go_wp2_with fail
    refine (CL2.out _).mono ?_
    rintro e w' ⟨rfl, n1, rfl⟩
    have T2 := (NB0.draw (nq + n1)).tb
    have HG := Lib.hid T2.bl
    have HB := Lib.hid T2.bw
    clear T2 NB0 H c3 c6 f6
    go_wp2_with (first | (refine wpList_store_row rfl 24 _ _ rfl w.heap.size #[.int .i64 0, .string ⟨#[]⟩, .float .f64 0, .bool false, .bool false, .int .i64 0, .int .i64 0] rfl rfl 24 #[.int .i64 0, .string ⟨#[]⟩, .float .f64 0, .bool false, .bool false, .int .i64 0, .int .i64 0] HG.out (by first | kernel_rfl | rfl) rfl (by first | kernel_rfl | rfl) ?_))
    refine bodyPost_ret (results_cell_tmp rfl _ _ _ _ _ rfl (run_loadVar_row _ w.heap.size 24 24 _ (0, 0) _ (setRow_heap _ _ _ _ _ _ HG.out) Tryz.underlying24 rfl (by first | kernel_rfl | rfl))) rfl ⟨?_, below_setRowK HB.out (Nat.le_refl _) _⟩
    rfl
  ·rw [if_neg h92] at h4
   have g1 : ((c : Int) == 92) = false := by rw [beq_eq_false_iff_ne]; omega
   have CF2 := CF1.out c
   cases hf : fitN b0 c
   ·rw [hf] at CF2
    have CF2 := Lib.hid CF2
    have h5 : R = some (l, esc, j) := by rw [h4]; simp [hf]
    subst h5
    have hlb : 2 * l.length ≤ 140737488355328 := by have := HJ1.out; have := HL.out; have := HJ3.out; omega
    obtain ⟨X, hX⟩ : ∃ X : ByteArray, (⟨(bL l).toArray⟩ : ByteArray) = X := ⟨_, rfl⟩
    have hXu : us X = l := by rw [← hX]; exact us_bL HJ2.out
    have hXs : X.size ≤ 17592186044416 := by
     rw [← hX]
     show (bL l).toArray.size ≤ _
     rw [List.size_toArray, bL_length]
     have := HJ1.out; have := HL.out; have := HJ3.out; omega
    have CM := Lib.hid (show ∀ W, Own16 (w.heap.size + 2) l (.slice a l.length cap) W → Cp 37 #[.slice a l.length cap] W fun e w' => e = .returned (.string X) ∧ Below W.heap.size W w' from fun W h => by rw [← hX]; exact make_own h HJ2.out hlb)
    have CR := fun W => xReserved_any X W hXs
    rw [hXu] at CR
    have HE : ∀ b : Bool, resB l = b → Hid (TokE (namV (some (l, esc, j))) = .returned (.tuple #[.agg #[.int .i64 (if b = true then 3 else 2), .string X, .float .f64 0, .bool esc, .bool false, .int .i64 0, .int .i64 (j : Int)], .bool true])) := fun b hb => Lib.hid (by
     unfold TokE namV tkV
     rw [Option.map_some, hX, hb]
     cases b <;> rfl)
    cases hr : resB l
    ·rw [hr] at CR
     have HE1 := HE false hr
     have CR := Lib.hid CR
     clear HR hf h4 hcl hcu h92 hX hXu hXs hlb HE hr hsz c3
     go_wp2
     go_quiet ((go_at_call 31; exact Calls.quiet_of (C1.out _)))
     go_wp2_with fail
     refine (CF2.out _).mono ?_
     rintro e w' ⟨rfl, rfl⟩
     go_wp2_with fail
     refine (CM.out _ (show Own16 (w.heap.size + 2) l (.slice a l.length cap) (wr.drewN nq) from H)).mono ?_
     rintro e w1 ⟨rfl, b1⟩
     have NB1 := (NB0.draw nq).step b1
     obtain ⟨c0, c1, c3, d6, fz⟩ := NB1.cells
     have f1 := fz 1
     have NB2 := NB1.put1 X
     obtain ⟨e0, e1, e3, e6, fy⟩ := NB2.cells
     clear b1 c0 c3 d6 fz e0 e3 e6 fy H c6 f6
     go_wp2_with fail
     refine (CR.out _).mono ?_
     rintro e w2 ⟨rfl, b2⟩
     have NB3 := NB2.step b2
     obtain ⟨k0, k1, k2, k3, k4, k5, k6⟩ := NB3.all
     have HG := Lib.hid NB3.tb.bl
     have HB := Lib.hid NB3.tb.bw
     clear b2 NB0 NB1 NB2 NB3 c1 f1 e1
     go_wp2_with (first | (refine wpList_store_row rfl 24 _ _ rfl w.heap.size #[.int .i64 2, .string X, .float .f64 0, .bool esc, .bool false, .int .i64 0, .int .i64 (j : Int)] rfl rfl 24 #[.int .i64 0, .string ⟨#[]⟩, .float .f64 0, .bool false, .bool false, .int .i64 0, .int .i64 0] HG.out (by first | kernel_rfl | rfl) rfl (by first | kernel_rfl | rfl) ?_))
     refine bodyPost_ret (results_cell_tmp rfl _ _ _ _ _ rfl (run_loadVar_row _ w.heap.size 24 24 _ (0, 0) _ (setRow_heap _ _ _ _ _ _ HG.out) Tryz.underlying24 rfl (by first | kernel_rfl | rfl))) rfl ⟨?_, below_setRowK HB.out (Nat.le_refl _) _⟩
     exact HE1.out.symm
    ·rw [hr] at CR
     have HE1 := HE true hr
     have CR := Lib.hid CR
     clear HR hf h4 hcl hcu h92 hX hXu hXs hlb HE hr hsz c3
     go_wp2
     go_quiet ((go_at_call 31; exact Calls.quiet_of (C1.out _)))
     go_wp2_with fail
     refine (CF2.out _).mono ?_
     rintro e w' ⟨rfl, rfl⟩
     go_wp2_with fail
     refine (CM.out _ (show Own16 (w.heap.size + 2) l (.slice a l.length cap) (wr.drewN nq) from H)).mono ?_
     rintro e w1 ⟨rfl, b1⟩
     have NB1 := (NB0.draw nq).step b1
     obtain ⟨c0, c1, c3, d6, fz⟩ := NB1.cells
     have f1 := fz 1
     have NB2 := NB1.put1 X
     obtain ⟨e0, e1, e3, e6, fy⟩ := NB2.cells
     clear b1 c0 c3 d6 fz e0 e3 e6 fy H c6 f6
     go_wp2_with fail
     refine (CR.out _).mono ?_
     rintro e w2 ⟨rfl, b2⟩
     have NB3 := NB2.step b2
     obtain ⟨k0, k1, k2, k3, k4, k5, k6⟩ := NB3.all
     have f0 := NB3.cells.2.2.2.2 0
     have NB4 := NB3.put0 3
     have HG := Lib.hid NB4.tb.bl
     have HB := Lib.hid NB4.tb.bw
     clear b2 NB0 NB1 NB2 NB3 NB4 c1 f1 e1
     go_wp2_with (first | (refine wpList_store_row rfl 24 _ _ rfl w.heap.size #[.int .i64 3, .string X, .float .f64 0, .bool esc, .bool false, .int .i64 0, .int .i64 (j : Int)] rfl rfl 24 #[.int .i64 0, .string ⟨#[]⟩, .float .f64 0, .bool false, .bool false, .int .i64 0, .int .i64 0] HG.out (by first | kernel_rfl | rfl) rfl (by first | kernel_rfl | rfl) ?_))
     refine bodyPost_ret (results_cell_tmp rfl _ _ _ _ _ rfl (run_loadVar_row _ w.heap.size 24 24 _ (0, 0) _ (setRow_heap _ _ _ _ _ _ HG.out) Tryz.underlying24 rfl (by first | kernel_rfl | rfl))) rfl ⟨?_, below_setRowK HB.out (Nat.le_refl _) _⟩
     exact HE1.out.symm
   ·rw [hf] at CF2
    have CF2 := Lib.hid CF2
    have hj6 : j + 1 ≤ ln s := hcl (by rintro rfl; revert hf; cases b0 <;> decide)
    have HN : Hid (namR (j + 1) (l ++ [c]) esc s = R) := Lib.hid (by
     rw [h4]
     simp only [hf, if_true]
     unfold namR
     rw [show ((l ++ [c]).length == 0) = false by simp]
     cases namG false ((us s).drop (j + 1)) with
     | none => rfl
     | some p => simp; omega)
    have HU : Hid ((l ++ [c]).length ≤ j + 1 ∧ ∀ u ∈ l ++ [c], u < 65536) := Lib.hid ⟨by rw [List.length_append, List.length_singleton]; have := HJ1.out; omega, fun u hu => by
     rcases List.mem_append.1 hu with h | h
     ·exact HJ2.out u h
     ·simp at h; omega⟩
    have HJ6 := Lib.hid hj6
    clear HR hf h4 hcl hcu hj6 h92
    cases esc
    all_goals
     go_wp2
     go_quiet ((go_at_call 31; exact Calls.quiet_of (C1.out _)))
     go_wp2_with fail
     refine (CF2.out _).mono ?_
     rintro e w' ⟨rfl, rfl⟩
     go_wp2_with (at_builtin; refine wpList_append_own _ rfl _ _ 42 rfl (w.heap.size + 2) 47 i0 (.int .u16 0) 1 2 Tryz.underlying42 hi hz0 hz1 hz2 rfl (by decide) _ _ _ rfl (World.ownsRow.alloc (w := (wr.drewN (nq))) H _) ⟨(wr.drewN (nq)).heap.size, 0, none⟩ 1 1 [.int .u16 (c : Nat)] rfl rfl ?c1 ?c2 ?c3 ?c4 ?c5 ?_)
     case c1 => exact (cell_one_new _ _ _)
     case c2 => simp [Value.oneCell']
     case c3 => unfold maxLen; omega
     case c4 => omega
     case c5 => simp; omega
     intro v' w1 hown hg _
     have hbw : Below (w.heap.size + 2) wr w1 := ((below_drewN' (Below.refl _ wr) nq).alloc (by simpa using hsz) _).grown hg (by simp; omega) (fun j hj => (World.ownsRow.lt H j hj).1)
     have NB1 := NB0.base hbw
     obtain ⟨c0, c1, d3, d6, fz⟩ := NB1.cells
     have f3 := fz 3
     have f6 := fz 6
     have o1 : Own16 (w.heap.size + 2) (l ++ [c]) v' w1 := by simpa [Own16] using hown
     have HX := fun (b : Bool) => Lib.hid (show NmP w s (j + 1) (l ++ [c]) b v' ((w1.setCell ⟨w.heap.size + 1, 6, none⟩ (.int .i64 ((j + 1 : Nat) : Int))).setCell ⟨w.heap.size + 1, 3, none⟩ (.bool b)) R ∨ namR (j + 1) (l ++ [c]) b s ≠ R from if h : namR (j + 1) (l ++ [c]) b s = R then .inl ⟨HU.out.1, HU.out.2, h, (NB1.put6 (j + 1)).put3 b, own16_set (own16_set o1 (by omega) _) (by omega) _⟩ else .inr h)
     have HW := Lib.hid (own16_len o1)
     clear NB0 NB1 hbw hown hg H o1 fz c0 c1 c3 c6
     go_wp2
     go_roundw
     case rel => exact ⟨j + 1, l ++ [c], v', _, rfl, HJ6.out, Lib.hid ((HX _).out.resolve_right (fun h => h HN.out))⟩
     case measure =>
      obtain ⟨a', cap', rfl⟩ := HW.out
      have := HLT.out
      simp [lenOf] at this ⊢
      omega

end Go.Proofs.YtjmplgbhjpldbaaGreatDoor
namespace Go.Proofs.YtjmplgbhjpldbaaGreatDoor
open Go.RowKit
theorem tw_next (f : Nat → Bool) (h0 : f 0 = false) (L : List Nat) (j : Nat) : ((L.drop j).takeWhile f).length = if f (hd0 (L.drop j)) = true then 1 + ((L.drop (j + 1)).takeWhile f).length else 0 := by
 rcases hd : L.drop j with _ | ⟨c, r⟩
 ·have : hd0 ([] : List Nat) = 0 := rfl
  rw [this, h0]
  rfl
 ·have h1 : L.drop (j + 1) = r := by rw [← List.drop_drop, hd]; rfl
  have h2 : hd0 (c :: r) = c := rfl
  rw [h1, h2, List.takeWhile_cons]
  cases f c
  ·rfl
  ·simp; omega
theorem tw_le (f : Nat → Bool) (L : List Nat) (j : Nat) (hj : j ≤ L.length) : j + ((L.drop j).takeWhile f).length ≤ L.length := by
 have := (List.takeWhile_sublist f (l := L.drop j)).length_le
 rw [List.length_drop] at this
 omega
theorem tw_drop (f : Nat → Bool) (L : List Nat) (j : Nat) : L.drop (j + ((L.drop j).takeWhile f).length) = (L.drop j).dropWhile f := by
 rw [← List.drop_drop]
 have h := List.takeWhile_append_dropWhile (p := f) (l := L.drop j)
 generalize (L.drop j).takeWhile f = A at h ⊢
 generalize (L.drop j).dropWhile f = D at h ⊢
 rw [← h, List.drop_left]
theorem hd0_pos {L : List Nat} {j c : Nat} (hc : c ≠ 0) (h : hd0 (L.drop j) = c) : j + 1 ≤ L.length := by
 rcases Nat.lt_or_ge j L.length with h1 | h1
 ·exact h1
 ·rw [List.drop_eq_nil_iff.2 h1] at h
  exact absurd h.symm hc
set_option maxRecDepth 100000 in
set_option maxHeartbeats 1000000 in
theorem xdec_end (s : ByteArray) (k : Nat) (w : World) (hs : s.size ≤ 140737488355328) (hk : k ≤ ln s) :
  Cp 96 #[.string s, .int .i64 k, .func (.func 52) #[] #[]] w fun e w' => e = .returned (.int .i64 ((k + (((us s).drop k).takeWhile dg10).length : Nat) : Int)) ∧ ∃ n, w' = w.drewN n := by
 have hs63 : s.size ≤ maxLen := by unfold maxLen; omega
 have hln := ln_le s
 have hll : (ln s : Int) ≤ 70368744177664 := by omega
 have C1 := Lib.hid (fun (j : Nat) W => xunit_any s j W hs63)
 have C2 := Lib.hid (fun (c : Nat) W => xdecimal_any c W)
 obtain ⟨R, hR⟩ : ∃ R, k + (((us s).drop k).takeWhile dg10).length = R := ⟨_, rfl⟩
 rw [hR]
 have HR := Lib.hid hR
 clear hs hs63 hR hln
 go_enter Tryz.func96, Tryz.ntmps96
 go_wp2
 go_loopw [1] (fun av wr => ∃ (j : Nat), av = .int .i64 j ∧ j ≤ ln s ∧ Hid (j + (((us s).drop j).takeWhile dg10).length = R) ∧ ∃ n, wr = w.drewN n) (fun av _ => ln s - (intOf av).toNat)
 case atStart => exact ⟨k, rfl, hk, HR, 0, rfl⟩
 case round =>
  obtain ⟨j, rfl, hj, HJ, n0, rfl⟩ := hrel
  have h1 := HJ.out
  rw [tw_next dg10 (by decide)] at h1
  obtain ⟨c, hc⟩ : ∃ c, hd0 ((us s).drop j) = c := ⟨_, rfl⟩
  have C3 := C1.out j
  rw [hc] at h1 C3
  have C3 := Lib.hid C3
  have C4 := C2.out c
  cases hb : dg10 c
  ·rw [hb] at C4 h1
   rw [if_neg (by simp), Nat.add_zero] at h1
   subst h1
   have C4 := Lib.hid C4
   clear hb hc HJ HR
   go_wp2_with fail
   refine (C3.out _).mono ?_
   rintro e w' ⟨rfl, n1, rfl⟩
   go_wp2_with fail
   refine (C4.out _).mono ?_
   rintro e w' ⟨rfl, rfl⟩
   go_wp2
   go_ret
   exact ⟨rfl, n0 + n1, by first | rfl | simp⟩
  ·rw [hb] at C4 h1
   rw [if_pos rfl] at h1
   have hlt : j + 1 ≤ ln s := by
    have := hd0_pos (c := c) (by rintro rfl; revert hb; decide) hc
    rw [us_length] at this
    exact this
   have HJ2 : Hid (j + 1 + (((us s).drop (j + 1)).takeWhile dg10).length = R) := Lib.hid (by omega)
   have C4 := Lib.hid C4
   clear hb hc HJ h1
   go_wp2_with fail
   refine (C3.out _).mono ?_
   rintro e w' ⟨rfl, n1, rfl⟩
   go_wp2_with fail
   refine (C4.out _).mono ?_
   rintro e w' ⟨rfl, rfl⟩
   go_wp2
   go_roundw
   case rel => exact ⟨j + 1, by go_num, hlt, HJ2, n0 + n1, by first | rfl | simp⟩
   case measure => simp [intOf]; omega
set_option maxRecDepth 100000 in
set_option maxHeartbeats 1000000 in
theorem xhxd_end (s : ByteArray) (k : Nat) (w : World) (hs : s.size ≤ 140737488355328) (hk : k ≤ ln s) :
  Cp 96 #[.string s, .int .i64 k, .func (.func 97) #[] #[]] w fun e w' => e = .returned (.int .i64 ((k + (((us s).drop k).takeWhile hx16).length : Nat) : Int)) ∧ ∃ n, w' = w.drewN n := by
 have hs63 : s.size ≤ maxLen := by unfold maxLen; omega
 have hln := ln_le s
 have hll : (ln s : Int) ≤ 70368744177664 := by omega
 have C1 := Lib.hid (fun (j : Nat) W => xunit_any s j W hs63)
 have C2 := Lib.hid (fun (c : Nat) W => xhexadecimal_any c W)
 obtain ⟨R, hR⟩ : ∃ R, k + (((us s).drop k).takeWhile hx16).length = R := ⟨_, rfl⟩
 rw [hR]
 have HR := Lib.hid hR
 clear hs hs63 hR hln
 go_enter Tryz.func96, Tryz.ntmps96
 go_wp2
 go_loopw [1] (fun av wr => ∃ (j : Nat), av = .int .i64 j ∧ j ≤ ln s ∧ Hid (j + (((us s).drop j).takeWhile hx16).length = R) ∧ ∃ n, wr = w.drewN n) (fun av _ => ln s - (intOf av).toNat)
 case atStart => exact ⟨k, rfl, hk, HR, 0, rfl⟩
 case round =>
  obtain ⟨j, rfl, hj, HJ, n0, rfl⟩ := hrel
  have h1 := HJ.out
  rw [tw_next hx16 (by decide)] at h1
  obtain ⟨c, hc⟩ : ∃ c, hd0 ((us s).drop j) = c := ⟨_, rfl⟩
  have C3 := C1.out j
  rw [hc] at h1 C3
  have C3 := Lib.hid C3
  have C4 := C2.out c
  cases hb : hx16 c
  ·rw [hb] at C4 h1
   rw [if_neg (by simp), Nat.add_zero] at h1
   subst h1
   have C4 := Lib.hid C4
   clear hb hc HJ HR
   go_wp2_with fail
   refine (C3.out _).mono ?_
   rintro e w' ⟨rfl, n1, rfl⟩
   go_wp2_with fail
   refine (C4.out _).mono ?_
   rintro e w' ⟨rfl, rfl⟩
   go_wp2
   go_ret
   exact ⟨rfl, n0 + n1, by first | rfl | simp⟩
  ·rw [hb] at C4 h1
   rw [if_pos rfl] at h1
   have hlt : j + 1 ≤ ln s := by
    have := hd0_pos (c := c) (by rintro rfl; revert hb; decide) hc
    rw [us_length] at this
    exact this
   have HJ2 : Hid (j + 1 + (((us s).drop (j + 1)).takeWhile hx16).length = R) := Lib.hid (by omega)
   have C4 := Lib.hid C4
   clear hb hc HJ h1
   go_wp2_with fail
   refine (C3.out _).mono ?_
   rintro e w' ⟨rfl, n1, rfl⟩
   go_wp2_with fail
   refine (C4.out _).mono ?_
   rintro e w' ⟨rfl, rfl⟩
   go_wp2
   go_roundw
   case rel => exact ⟨j + 1, by go_num, hlt, HJ2, n0 + n1, by first | rfl | simp⟩
   case measure => simp [intOf]; omega
/-! ### numberEnd -/
theorem hd0_head {l : List Nat} {c : Nat} (hc : c ≠ 0) : hd0 l = c ↔ l.head? = some c := by
 cases l with
 | nil => simp [hd0]; omega
 | cons a r => simp [hd0]
theorem num_dot {L : List Nat} {k : Nat} (hk : k ≤ L.length) {p1 : Nat} (h1 : k + ((L.drop k).takeWhile dg10).length = p1) :
  p1 ≤ L.length ∧ (hd0 (L.drop p1) ≠ 46 → L.drop p1 = dT (L.drop k)) ∧
  (hd0 (L.drop p1) = 46 → p1 + 1 ≤ L.length ∧ L.drop (p1 + 1 + ((L.drop (p1 + 1)).takeWhile dg10).length) = dT (L.drop k) ∧ p1 + 1 + ((L.drop (p1 + 1)).takeWhile dg10).length ≤ L.length) := by
 have e1 : L.drop p1 = aft10 (L.drop k) := by rw [← h1]; exact tw_drop dg10 L k
 refine ⟨by rw [← h1]; exact tw_le dg10 L k hk, fun h => ?_, fun h => ?_⟩
 ·unfold dT dotB
  rw [e1] at h ⊢
  rw [if_neg]
  intro h2
  exact h ((hd0_head (by omega)).2 (by simpa using h2))
 ·have h3 := hd0_pos (by omega) h
  refine ⟨h3, ?_, tw_le dg10 L _ h3⟩
  rw [tw_drop dg10 L (p1 + 1), ← List.tail_drop]
  unfold dT dotB
  rw [e1] at h ⊢
  rw [if_pos (by rw [(hd0_head (by omega)).1 h]; rfl)]
  rfl
theorem num_exp {L : List Nat} {k p2 : Nat} (hk : k ≤ L.length) (hx : hxA (L.drop k) = false) (h2 : L.drop p2 = dT (L.drop k)) (hp : p2 ≤ L.length) :
  (hd0 (L.drop p2) ≠ 101 ∧ hd0 (L.drop p2) ≠ 69 → k + numP (L.drop k) = p2) ∧
  (hd0 (L.drop p2) = 101 ∨ hd0 (L.drop p2) = 69 → p2 + 1 ≤ L.length ∧
   (hd0 (L.drop (p2 + 1)) = 43 ∨ hd0 (L.drop (p2 + 1)) = 45 → p2 + 2 ≤ L.length ∧ k + numP (L.drop k) = p2 + 2 + ((L.drop (p2 + 2)).takeWhile dg10).length) ∧
   (hd0 (L.drop (p2 + 1)) ≠ 43 ∧ hd0 (L.drop (p2 + 1)) ≠ 45 → k + numP (L.drop k) = p2 + 1 + ((L.drop (p2 + 1)).takeWhile dg10).length)) := by
 have hlen : ∀ p, p ≤ L.length → ∀ X, L.drop p = X → L.length - k + p = L.length - k + L.length - X.length := fun p hp X h => by
  have := congrArg List.length h
  rw [List.length_drop] at this
  omega
 unfold numP
 rw [hx, if_neg (by simp), ← h2, List.length_drop]
 refine ⟨fun ⟨g1, g2⟩ => ?_, fun g => ?_⟩
 ·rw [if_neg, List.length_drop]
  ·have : k ≤ p2 := by
    have h3 : (L.drop p2).length ≤ (L.drop k).length := by
     rw [h2]
     obtain ⟨X, hX⟩ := dT_suf (L.drop k)
     have := congrArg List.length hX
     rw [List.length_append] at this
     omega
    rw [List.length_drop, List.length_drop] at h3
    omega
   omega
  ·rintro (h | h)
   ·exact g1 ((hd0_head (by omega)).2 h)
   ·exact g2 ((hd0_head (by omega)).2 h)
 ·have hk2 : k ≤ p2 := by
   have h3 : (L.drop p2).length ≤ (L.drop k).length := by
    rw [h2]
    obtain ⟨X, hX⟩ := dT_suf (L.drop k)
    have := congrArg List.length hX
    rw [List.length_append] at this
    omega
   rw [List.length_drop, List.length_drop] at h3
   omega
  have hp1 : p2 + 1 ≤ L.length := by
   rcases g with g | g
   ·exact hd0_pos (by omega) g
   ·exact hd0_pos (by omega) g
  rw [if_pos (by rcases g with g | g; exact .inl ((hd0_head (by omega)).1 g); exact .inr ((hd0_head (by omega)).1 g))]
  refine ⟨hp1, fun g2 => ?_, fun ⟨g2, g3⟩ => ?_⟩
  ·have hp2 : p2 + 2 ≤ L.length := by
    rcases g2 with g2 | g2
    ·exact hd0_pos (j := p2 + 1) (by omega) g2
    ·exact hd0_pos (j := p2 + 1) (by omega) g2
   refine ⟨hp2, ?_⟩
   have e : expR (L.drop p2) = L.drop (p2 + 2 + ((L.drop (p2 + 2)).takeWhile dg10).length) := by
    rw [tw_drop dg10 L (p2 + 2)]
    unfold expR unsg
    rw [List.tail_drop, if_pos (by rcases g2 with g2 | g2; exact .inr ((hd0_head (by omega)).1 g2); exact .inl ((hd0_head (by omega)).1 g2)), List.tail_drop]
    rfl
   rw [e, List.length_drop]
   have := tw_le dg10 L (p2 + 2) hp2
   omega
  ·have e : expR (L.drop p2) = L.drop (p2 + 1 + ((L.drop (p2 + 1)).takeWhile dg10).length) := by
    rw [tw_drop dg10 L (p2 + 1)]
    unfold expR unsg
    rw [List.tail_drop, if_neg]
    ·rfl
    ·rintro (h | h)
     ·exact g3 ((hd0_head (by omega)).2 h)
     ·exact g2 ((hd0_head (by omega)).2 h)
   rw [e, List.length_drop]
   have := tw_le dg10 L (p2 + 1) hp1
   omega
theorem hxA_hd (L : List Nat) (k : Nat) : hxA (L.drop k) = (hd0 (L.drop k) == 48 && (hd0 (L.drop (k + 1)) == 120 || hd0 (L.drop (k + 1)) == 88)) := by
 unfold hxA
 rw [List.tail_drop]
 have h : ∀ (l : List Nat) (c : Nat), c ≠ 0 → (l.head? == some c) = (hd0 l == c) := fun l c hc => by
  rw [Bool.eq_iff_iff]
  simp only [beq_iff_eq]
  exact (hd0_head hc).symm
 rw [h _ _ (by omega), h _ _ (by omega), h _ _ (by omega)]
set_option maxRecDepth 100000 in
set_option maxHeartbeats 12000000 in
theorem xnumberEnd_hex (s : ByteArray) (k : Nat) (w : World) (hs : s.size ≤ 140737488355328) (hk : k ≤ ln s) (hx : hxA ((us s).drop k) = true) :
  Cp 78 #[.string s, .int .i64 k] w fun e w' => e = .returned (.int .i64 ((k + numP ((us s).drop k) : Nat) : Int)) ∧ ∃ n, w' = w.drewN n := by
 have hs63 : s.size ≤ maxLen := by unfold maxLen; omega
 have hln := ln_le s
 have hll : (ln s : Int) ≤ 70368744177664 := by omega
 have hkl : (k : Int) ≤ 70368744177664 := by omega
 have CU : ∀ p W, Cp 31 #[.string s, .int .i64 ((p : Nat) : Int)] W fun e w' => e = .returned (.int .u16 ((hd0 ((us s).drop p) : Nat) : Int)) ∧ ∃ n, w' = W.drewN n := fun p W => xunit_any s p W hs63
 have CU1 : ∀ p W, Cp 31 #[.string s, .int .i64 (((p : Nat) : Int) + 1)] W fun e w' => e = .returned (.int .u16 ((hd0 ((us s).drop (p + 1)) : Nat) : Int)) ∧ ∃ n, w' = W.drewN n := fun p W => xunit_any s (p + 1) W hs63
 obtain ⟨c, hc⟩ : ∃ c, hd0 ((us s).drop k) = c := ⟨_, rfl⟩
 obtain ⟨d, hd⟩ : ∃ d, hd0 ((us s).drop (k + 1)) = d := ⟨_, rfl⟩
 have C1 := CU1 k
 have C2 := CU k
 rw [hd] at C1
 rw [hc] at C2
 rw [hxA_hd, hc, hd] at hx
 have h48 : c = 48 := by
  rw [Bool.and_eq_true] at hx
  simpa using hx.1
 have hxX : d = 120 ∨ d = 88 := by
  rw [Bool.and_eq_true] at hx
  simpa using hx.2
 have hk2 : k + 2 ≤ ln s := by
  have := hd0_pos (L := us s) (j := k + 1) (c := d) (by omega) hd
  rw [us_length] at this
  exact this
 have C3 : ∀ W, Cp 96 #[.string s, .int .i64 ((k : Int) + 2), .func (.func 97) #[] #[]] W fun e w' => e = .returned (.int .i64 ((k + numP ((us s).drop k) : Nat) : Int)) ∧ ∃ n, w' = W.drewN n := fun W => by
  have h := xhxd_end s (k + 2) W hs hk2
  have e : k + numP ((us s).drop k) = k + 2 + (((us s).drop (k + 2)).takeWhile hx16).length := by
   unfold numP
   rw [if_pos (by rw [hxA_hd, hc, hd]; exact hx), List.drop_drop]
   omega
  rw [e]
  exact h
 obtain ⟨R, hR⟩ : ∃ R, k + numP ((us s).drop k) = R := ⟨_, rfl⟩
 rw [hR] at C3 ⊢
 have C1 := Lib.hid C1
 have C2 := Lib.hid C2
 have C3 := Lib.hid C3
 subst h48
 clear CU CU1 hs hs63 hx hc hd hR hln
 rcases hxX with rfl | rfl
 all_goals
  go_enter Tryz.func78, Tryz.ntmps78
  go_wp2_with fail
  refine (C1.out _).mono ?_
  rintro e w' ⟨rfl, n1, rfl⟩
  go_wp2_with fail
  refine (C2.out _).mono ?_
  rintro e w' ⟨rfl, n2, rfl⟩
  go_wp2_with fail
  refine (C3.out _).mono ?_
  rintro e w' ⟨rfl, n3, rfl⟩
  go_wp2
  go_ret
  exact ⟨rfl, n1 + n2 + n3, by first | rfl | simp⟩
set_option maxRecDepth 100000 in
set_option maxHeartbeats 12000000 in
theorem xnumberEnd_a (s : ByteArray) (k : Nat) (w : World) (hs : s.size ≤ 140737488355328) (hk : k ≤ ln s) (h48 : hd0 ((us s).drop k) ≠ 48) :
  Cp 78 #[.string s, .int .i64 k] w fun e w' => e = .returned (.int .i64 ((k + numP ((us s).drop k) : Nat) : Int)) ∧ ∃ n, w' = w.drewN n := by
 have hs63 : s.size ≤ maxLen := by unfold maxLen; omega
 have hln := ln_le s
 have hll : (ln s : Int) ≤ 70368744177664 := by omega
 have hkl : (k : Int) ≤ 70368744177664 := by omega
 have CU : ∀ p W, Cp 31 #[.string s, .int .i64 ((p : Nat) : Int)] W fun e w' => e = .returned (.int .u16 ((hd0 ((us s).drop p) : Nat) : Int)) ∧ ∃ n, w' = W.drewN n := fun p W => xunit_any s p W hs63
 have CU1 : ∀ p W, Cp 31 #[.string s, .int .i64 (((p : Nat) : Int) + 1)] W fun e w' => e = .returned (.int .u16 ((hd0 ((us s).drop (p + 1)) : Nat) : Int)) ∧ ∃ n, w' = W.drewN n := fun p W => xunit_any s (p + 1) W hs63
 obtain ⟨c, hc⟩ : ∃ c, hd0 ((us s).drop k) = c := ⟨_, rfl⟩
 obtain ⟨d, hd⟩ : ∃ d, hd0 ((us s).drop (k + 1)) = d := ⟨_, rfl⟩
 have C1 := CU1 k
 have C2 := CU k
 rw [hd] at C1
 rw [hc] at C2
 have hx : hxA ((us s).drop k) = false := by
  rw [hxA_hd]
  simp [h48]
 rw [hc] at h48
 have g1 : ((c : Int) == 48) = false := by rw [beq_eq_false_iff_ne]; omega
 obtain ⟨R, hR⟩ : ∃ R, k + numP ((us s).drop k) = R := ⟨_, rfl⟩
 rw [hR]
 have HR := Lib.hid hR
 have HX := Lib.hid hx
 have HS := Lib.hid hs
 have HLL := Lib.hid hll
 have HKL : Hid (k ≤ (us s).length) := Lib.hid (by rw [us_length]; exact hk)
 obtain ⟨p1, hp1⟩ : ∃ p1, k + (((us s).drop k).takeWhile dg10).length = p1 := ⟨_, rfl⟩
 have C3 := fun W => xdec_end s k W hs hk
 rw [hp1] at C3
 obtain ⟨hb1, hnd, hdt⟩ := num_dot HKL.out hp1
 have C4 := CU p1
 obtain ⟨c1, hc1⟩ : ∃ c1, hd0 ((us s).drop p1) = c1 := ⟨_, rfl⟩
 rw [hc1] at C4 hnd hdt
 have hp1l : (p1 : Int) ≤ 70368744177664 := by have := hb1; rw [us_length] at this; omega
 have C3 := Lib.hid C3
 have C4 := Lib.hid C4
 have C1 := Lib.hid C1
 have C2 := Lib.hid C2
 have CU := Lib.hid CU
 have CU1 := Lib.hid CU1
 have HB1 := Lib.hid hb1
 have HND := Lib.hid hnd
 have HDT := Lib.hid hdt
 clear h48
 clear hs hs63 hln hll hx hc hd hk hR hp1 hb1 hnd hdt hc1
 go_enter Tryz.func78, Tryz.ntmps78
 go_wp2_with fail
 refine (C1.out _).mono ?_
 rintro e w' ⟨rfl, n1, rfl⟩
 go_wp2_with fail
 refine (C2.out _).mono ?_
 rintro e w' ⟨rfl, n2, rfl⟩
 go_wp2_with fail
 refine (C3.out _).mono ?_
 rintro e w' ⟨rfl, n3, rfl⟩
 go_wp2_with fail
 refine (C4.out _).mono ?_
 rintro e w' ⟨rfl, n4, rfl⟩
 by_cases h46 : c1 = 46
 ·have HD := HDT.out h46
  have C5 := Lib.hid (show ∀ W, Cp 96 #[.string s, .int .i64 ((p1 : Int) + 1), .func (.func 52) #[] #[]] W fun e w' => e = .returned (.int .i64 ((p1 + 1 + (((us s).drop (p1 + 1)).takeWhile dg10).length : Nat) : Int)) ∧ ∃ n, w' = W.drewN n from fun W => xdec_end s (p1 + 1) W HS.out (by have := HD.1; rw [us_length] at this; exact this))
  obtain ⟨p2, hp2d⟩ : ∃ p2, p1 + 1 + (((us s).drop (p1 + 1)).takeWhile dg10).length = p2 := ⟨_, rfl⟩
  obtain ⟨_, hp2, hb2⟩ := HD
  rw [hp2d] at C5 hp2 hb2
  have HP2 := Lib.hid hp2
  have HB2 := Lib.hid hb2
  subst h46
  clear hp2d hp2 hb2
  go_wp2_with fail
  refine (C5.out _).mono ?_
  rintro e w' ⟨rfl, n5, rfl⟩
  have hp2 := HP2.out
  have hb2 := HB2.out
  have hpl : (p2 : Int) ≤ 70368744177664 := by have := HLL.out; have := hb2; rw [us_length] at this; omega
  obtain ⟨c2, hc2⟩ : ∃ c2, hd0 ((us s).drop p2) = c2 := ⟨_, rfl⟩
  have C6 := CU.out p2
  rw [hc2] at C6
  have C6 := Lib.hid C6
  obtain ⟨q1, q2⟩ := num_exp HKL.out HX.out hp2 hb2
  rw [hc2] at q1 q2
  obtain ⟨c3, hc3⟩ : ∃ c3, hd0 ((us s).drop (p2 + 1)) = c3 := ⟨_, rfl⟩
  have C7 := CU1.out p2
  rw [hc3] at C7 q2
  have C7 := Lib.hid C7
  have Q1 := Lib.hid q1
  have Q2 := Lib.hid q2
  clear q1 q2 hc2 hc3 hp2 hb2
  by_cases he : c2 = 101 ∨ c2 = 69
  ·have Q3 := Lib.hid (Q2.out he)
   rcases he with rfl | rfl
   all_goals
    go_wp2_with fail
    refine (C6.out _).mono ?_
    rintro e w' ⟨rfl, n6, rfl⟩
    go_wp2_with fail
    refine (C7.out _).mono ?_
    rintro e w' ⟨rfl, n7, rfl⟩
    by_cases hsg : c3 = 43 ∨ c3 = 45
    ·obtain ⟨hb4, hRe⟩ := Q3.out.2.1 hsg
     have C8 := Lib.hid (show ∀ W, Cp 96 #[.string s, .int .i64 ((p2 : Int) + 1 + 1), .func (.func 52) #[] #[]] W fun e w' => e = .returned (.int .i64 (R : Nat)) ∧ ∃ n, w' = W.drewN n from fun W => by
      rw [← HR.out, hRe]; exact xdec_end s (p2 + 2) W HS.out (by rw [us_length] at hb4; omega))
     clear hb4 hRe
     rcases hsg with rfl | rfl
     all_goals
      go_wp2_with fail
      with_reducible refine (C8.out _).mono ?_
      rintro e w' ⟨rfl, n8, rfl⟩
      go_wp2
      go_ret
      exact ⟨rfl, n1 + n2 + n3 + n4 + n5 + n6 + n7 + n8, by first | rfl | simp⟩
    ·have hRe := Q3.out.2.2 (by omega)
     have hb3 := Q3.out.1
     have C8 := Lib.hid (show ∀ W, Cp 96 #[.string s, .int .i64 ((p2 : Int) + 1), .func (.func 52) #[] #[]] W fun e w' => e = .returned (.int .i64 (R : Nat)) ∧ ∃ n, w' = W.drewN n from fun W => by
      rw [← HR.out, hRe]; exact xdec_end s (p2 + 1) W HS.out (by rw [us_length] at hb3; omega))
     have f1 : ((c3 : Int) == 43) = false := by rw [beq_eq_false_iff_ne]; omega
     have f2 : ((c3 : Int) == 45) = false := by rw [beq_eq_false_iff_ne]; omega
     clear hb3 hRe hsg
     go_wp2_with fail
     with_reducible refine (C8.out _).mono ?_
     rintro e w' ⟨rfl, n8, rfl⟩
     go_wp2
     go_ret
     exact ⟨rfl, n1 + n2 + n3 + n4 + n5 + n6 + n7 + n8, by first | rfl | simp⟩
  ·have HRe := Lib.hid (Q1.out (by omega))
   have f1 : ((c2 : Int) != 101) = true := by simp; omega
   have f2 : ((c2 : Int) != 69) = true := by simp; omega
   have hRp : R = p2 := by rw [← HR.out, HRe.out]
   subst hRp
   clear he HRe
   go_wp2_with fail
   refine (C6.out _).mono ?_
   rintro e w' ⟨rfl, n6, rfl⟩
   go_wp2
   go_ret
   exact ⟨rfl, n1 + n2 + n3 + n4 + n5 + n6, by first | rfl | simp⟩
 ·have hp2 := HND.out h46
  have hb2 := HB1.out
  have g4 : ((c1 : Int) == 46) = false := by rw [beq_eq_false_iff_ne]; omega
  clear h46
  have hpl : (p1 : Int) ≤ 70368744177664 := by have := HLL.out; have := hb2; rw [us_length] at this; omega
  obtain ⟨c2, hc2⟩ : ∃ c2, hd0 ((us s).drop p1) = c2 := ⟨_, rfl⟩
  have C6 := CU.out p1
  rw [hc2] at C6
  have C6 := Lib.hid C6
  obtain ⟨q1, q2⟩ := num_exp HKL.out HX.out hp2 hb2
  rw [hc2] at q1 q2
  obtain ⟨c3, hc3⟩ : ∃ c3, hd0 ((us s).drop (p1 + 1)) = c3 := ⟨_, rfl⟩
  have C7 := CU1.out p1
  rw [hc3] at C7 q2
  have C7 := Lib.hid C7
  have Q1 := Lib.hid q1
  have Q2 := Lib.hid q2
  clear q1 q2 hc2 hc3 hp2 hb2
  by_cases he : c2 = 101 ∨ c2 = 69
  ·have Q3 := Lib.hid (Q2.out he)
   rcases he with rfl | rfl
   all_goals
    go_wp2_with fail
    refine (C6.out _).mono ?_
    rintro e w' ⟨rfl, n6, rfl⟩
    go_wp2_with fail
    refine (C7.out _).mono ?_
    rintro e w' ⟨rfl, n7, rfl⟩
    by_cases hsg : c3 = 43 ∨ c3 = 45
    ·obtain ⟨hb4, hRe⟩ := Q3.out.2.1 hsg
     have C8 := Lib.hid (show ∀ W, Cp 96 #[.string s, .int .i64 ((p1 : Int) + 1 + 1), .func (.func 52) #[] #[]] W fun e w' => e = .returned (.int .i64 (R : Nat)) ∧ ∃ n, w' = W.drewN n from fun W => by
      rw [← HR.out, hRe]; exact xdec_end s (p1 + 2) W HS.out (by rw [us_length] at hb4; omega))
     clear hb4 hRe
     rcases hsg with rfl | rfl
     all_goals
      go_wp2_with fail
      with_reducible refine (C8.out _).mono ?_
      rintro e w' ⟨rfl, n8, rfl⟩
      go_wp2
      go_ret
      exact ⟨rfl, n1 + n2 + n3 + n4 + n6 + n7 + n8, by first | rfl | simp⟩
    ·have hRe := Q3.out.2.2 (by omega)
     have hb3 := Q3.out.1
     have C8 := Lib.hid (show ∀ W, Cp 96 #[.string s, .int .i64 ((p1 : Int) + 1), .func (.func 52) #[] #[]] W fun e w' => e = .returned (.int .i64 (R : Nat)) ∧ ∃ n, w' = W.drewN n from fun W => by
      rw [← HR.out, hRe]; exact xdec_end s (p1 + 1) W HS.out (by rw [us_length] at hb3; omega))
     have f1 : ((c3 : Int) == 43) = false := by rw [beq_eq_false_iff_ne]; omega
     have f2 : ((c3 : Int) == 45) = false := by rw [beq_eq_false_iff_ne]; omega
     clear hb3 hRe hsg
     go_wp2_with fail
     with_reducible refine (C8.out _).mono ?_
     rintro e w' ⟨rfl, n8, rfl⟩
     go_wp2
     go_ret
     exact ⟨rfl, n1 + n2 + n3 + n4 + n6 + n7 + n8, by first | rfl | simp⟩
  ·have HRe := Lib.hid (Q1.out (by omega))
   have f1 : ((c2 : Int) != 101) = true := by simp; omega
   have f2 : ((c2 : Int) != 69) = true := by simp; omega
   have hRp : R = p1 := by rw [← HR.out, HRe.out]
   subst hRp
   clear he HRe
   go_wp2_with fail
   refine (C6.out _).mono ?_
   rintro e w' ⟨rfl, n6, rfl⟩
   go_wp2
   go_ret
   exact ⟨rfl, n1 + n2 + n3 + n4 + n6, by first | rfl | simp⟩
set_option maxRecDepth 100000 in
set_option maxHeartbeats 12000000 in
theorem xnumberEnd_b (s : ByteArray) (k : Nat) (w : World) (hs : s.size ≤ 140737488355328) (hk : k ≤ ln s) (h48 : hd0 ((us s).drop k) = 48) (h49 : hd0 ((us s).drop (k + 1)) ≠ 120 ∧ hd0 ((us s).drop (k + 1)) ≠ 88) :
  Cp 78 #[.string s, .int .i64 k] w fun e w' => e = .returned (.int .i64 ((k + numP ((us s).drop k) : Nat) : Int)) ∧ ∃ n, w' = w.drewN n := by
 have hs63 : s.size ≤ maxLen := by unfold maxLen; omega
 have hln := ln_le s
 have hll : (ln s : Int) ≤ 70368744177664 := by omega
 have hkl : (k : Int) ≤ 70368744177664 := by omega
 have CU : ∀ p W, Cp 31 #[.string s, .int .i64 ((p : Nat) : Int)] W fun e w' => e = .returned (.int .u16 ((hd0 ((us s).drop p) : Nat) : Int)) ∧ ∃ n, w' = W.drewN n := fun p W => xunit_any s p W hs63
 have CU1 : ∀ p W, Cp 31 #[.string s, .int .i64 (((p : Nat) : Int) + 1)] W fun e w' => e = .returned (.int .u16 ((hd0 ((us s).drop (p + 1)) : Nat) : Int)) ∧ ∃ n, w' = W.drewN n := fun p W => xunit_any s (p + 1) W hs63
 obtain ⟨c, hc⟩ : ∃ c, hd0 ((us s).drop k) = c := ⟨_, rfl⟩
 obtain ⟨d, hd⟩ : ∃ d, hd0 ((us s).drop (k + 1)) = d := ⟨_, rfl⟩
 have C1 := CU1 k
 have C2 := CU k
 rw [hd] at C1
 rw [hc] at C2
 have hx : hxA ((us s).drop k) = false := by
  rw [hxA_hd]
  simp [h48, h49]
 rw [hc] at h48
 rw [hd] at h49
 have g1 : ((d : Int) == 120) = false := by rw [beq_eq_false_iff_ne]; omega
 have g2 : ((d : Int) == 88) = false := by rw [beq_eq_false_iff_ne]; omega
 clear h49
 obtain ⟨R, hR⟩ : ∃ R, k + numP ((us s).drop k) = R := ⟨_, rfl⟩
 rw [hR]
 have HR := Lib.hid hR
 have HX := Lib.hid hx
 have HS := Lib.hid hs
 have HLL := Lib.hid hll
 have HKL : Hid (k ≤ (us s).length) := Lib.hid (by rw [us_length]; exact hk)
 obtain ⟨p1, hp1⟩ : ∃ p1, k + (((us s).drop k).takeWhile dg10).length = p1 := ⟨_, rfl⟩
 have C3 := fun W => xdec_end s k W hs hk
 rw [hp1] at C3
 obtain ⟨hb1, hnd, hdt⟩ := num_dot HKL.out hp1
 have C4 := CU p1
 obtain ⟨c1, hc1⟩ : ∃ c1, hd0 ((us s).drop p1) = c1 := ⟨_, rfl⟩
 rw [hc1] at C4 hnd hdt
 have hp1l : (p1 : Int) ≤ 70368744177664 := by have := hb1; rw [us_length] at this; omega
 have C3 := Lib.hid C3
 have C4 := Lib.hid C4
 have C1 := Lib.hid C1
 have C2 := Lib.hid C2
 have CU := Lib.hid CU
 have CU1 := Lib.hid CU1
 have HB1 := Lib.hid hb1
 have HND := Lib.hid hnd
 have HDT := Lib.hid hdt
 subst h48
 clear hs hs63 hln hll hx hc hd hk hR hp1 hb1 hnd hdt hc1
 go_enter Tryz.func78, Tryz.ntmps78
 go_wp2_with fail
 refine (C1.out _).mono ?_
 rintro e w' ⟨rfl, n1, rfl⟩
 go_wp2_with fail
 refine (C2.out _).mono ?_
 rintro e w' ⟨rfl, n2, rfl⟩
 go_wp2_with fail
 refine (C3.out _).mono ?_
 rintro e w' ⟨rfl, n3, rfl⟩
 go_wp2_with fail
 refine (C4.out _).mono ?_
 rintro e w' ⟨rfl, n4, rfl⟩
 by_cases h46 : c1 = 46
 ·have HD := HDT.out h46
  have C5 := Lib.hid (show ∀ W, Cp 96 #[.string s, .int .i64 ((p1 : Int) + 1), .func (.func 52) #[] #[]] W fun e w' => e = .returned (.int .i64 ((p1 + 1 + (((us s).drop (p1 + 1)).takeWhile dg10).length : Nat) : Int)) ∧ ∃ n, w' = W.drewN n from fun W => xdec_end s (p1 + 1) W HS.out (by have := HD.1; rw [us_length] at this; exact this))
  obtain ⟨p2, hp2d⟩ : ∃ p2, p1 + 1 + (((us s).drop (p1 + 1)).takeWhile dg10).length = p2 := ⟨_, rfl⟩
  obtain ⟨_, hp2, hb2⟩ := HD
  rw [hp2d] at C5 hp2 hb2
  have HP2 := Lib.hid hp2
  have HB2 := Lib.hid hb2
  subst h46
  clear hp2d hp2 hb2
  go_wp2_with fail
  refine (C5.out _).mono ?_
  rintro e w' ⟨rfl, n5, rfl⟩
  have hp2 := HP2.out
  have hb2 := HB2.out
  have hpl : (p2 : Int) ≤ 70368744177664 := by have := HLL.out; have := hb2; rw [us_length] at this; omega
  obtain ⟨c2, hc2⟩ : ∃ c2, hd0 ((us s).drop p2) = c2 := ⟨_, rfl⟩
  have C6 := CU.out p2
  rw [hc2] at C6
  have C6 := Lib.hid C6
  obtain ⟨q1, q2⟩ := num_exp HKL.out HX.out hp2 hb2
  rw [hc2] at q1 q2
  obtain ⟨c3, hc3⟩ : ∃ c3, hd0 ((us s).drop (p2 + 1)) = c3 := ⟨_, rfl⟩
  have C7 := CU1.out p2
  rw [hc3] at C7 q2
  have C7 := Lib.hid C7
  have Q1 := Lib.hid q1
  have Q2 := Lib.hid q2
  clear q1 q2 hc2 hc3 hp2 hb2
  by_cases he : c2 = 101 ∨ c2 = 69
  ·have Q3 := Lib.hid (Q2.out he)
   rcases he with rfl | rfl
   all_goals
    go_wp2_with fail
    refine (C6.out _).mono ?_
    rintro e w' ⟨rfl, n6, rfl⟩
    go_wp2_with fail
    refine (C7.out _).mono ?_
    rintro e w' ⟨rfl, n7, rfl⟩
    by_cases hsg : c3 = 43 ∨ c3 = 45
    ·obtain ⟨hb4, hRe⟩ := Q3.out.2.1 hsg
     have C8 := Lib.hid (show ∀ W, Cp 96 #[.string s, .int .i64 ((p2 : Int) + 1 + 1), .func (.func 52) #[] #[]] W fun e w' => e = .returned (.int .i64 (R : Nat)) ∧ ∃ n, w' = W.drewN n from fun W => by
      rw [← HR.out, hRe]; exact xdec_end s (p2 + 2) W HS.out (by rw [us_length] at hb4; omega))
     clear hb4 hRe
     rcases hsg with rfl | rfl
     all_goals
      go_wp2_with fail
      with_reducible refine (C8.out _).mono ?_
      rintro e w' ⟨rfl, n8, rfl⟩
      go_wp2
      go_ret
      exact ⟨rfl, n1 + n2 + n3 + n4 + n5 + n6 + n7 + n8, by first | rfl | simp⟩
    ·have hRe := Q3.out.2.2 (by omega)
     have hb3 := Q3.out.1
     have C8 := Lib.hid (show ∀ W, Cp 96 #[.string s, .int .i64 ((p2 : Int) + 1), .func (.func 52) #[] #[]] W fun e w' => e = .returned (.int .i64 (R : Nat)) ∧ ∃ n, w' = W.drewN n from fun W => by
      rw [← HR.out, hRe]; exact xdec_end s (p2 + 1) W HS.out (by rw [us_length] at hb3; omega))
     have f1 : ((c3 : Int) == 43) = false := by rw [beq_eq_false_iff_ne]; omega
     have f2 : ((c3 : Int) == 45) = false := by rw [beq_eq_false_iff_ne]; omega
     clear hb3 hRe hsg
     go_wp2_with fail
     with_reducible refine (C8.out _).mono ?_
     rintro e w' ⟨rfl, n8, rfl⟩
     go_wp2
     go_ret
     exact ⟨rfl, n1 + n2 + n3 + n4 + n5 + n6 + n7 + n8, by first | rfl | simp⟩
  ·have HRe := Lib.hid (Q1.out (by omega))
   have f1 : ((c2 : Int) != 101) = true := by simp; omega
   have f2 : ((c2 : Int) != 69) = true := by simp; omega
   have hRp : R = p2 := by rw [← HR.out, HRe.out]
   subst hRp
   clear he HRe
   go_wp2_with fail
   refine (C6.out _).mono ?_
   rintro e w' ⟨rfl, n6, rfl⟩
   go_wp2
   go_ret
   exact ⟨rfl, n1 + n2 + n3 + n4 + n5 + n6, by first | rfl | simp⟩
 ·have hp2 := HND.out h46
  have hb2 := HB1.out
  have g4 : ((c1 : Int) == 46) = false := by rw [beq_eq_false_iff_ne]; omega
  clear h46
  have hpl : (p1 : Int) ≤ 70368744177664 := by have := HLL.out; have := hb2; rw [us_length] at this; omega
  obtain ⟨c2, hc2⟩ : ∃ c2, hd0 ((us s).drop p1) = c2 := ⟨_, rfl⟩
  have C6 := CU.out p1
  rw [hc2] at C6
  have C6 := Lib.hid C6
  obtain ⟨q1, q2⟩ := num_exp HKL.out HX.out hp2 hb2
  rw [hc2] at q1 q2
  obtain ⟨c3, hc3⟩ : ∃ c3, hd0 ((us s).drop (p1 + 1)) = c3 := ⟨_, rfl⟩
  have C7 := CU1.out p1
  rw [hc3] at C7 q2
  have C7 := Lib.hid C7
  have Q1 := Lib.hid q1
  have Q2 := Lib.hid q2
  clear q1 q2 hc2 hc3 hp2 hb2
  by_cases he : c2 = 101 ∨ c2 = 69
  ·have Q3 := Lib.hid (Q2.out he)
   rcases he with rfl | rfl
   all_goals
    go_wp2_with fail
    refine (C6.out _).mono ?_
    rintro e w' ⟨rfl, n6, rfl⟩
    go_wp2_with fail
    refine (C7.out _).mono ?_
    rintro e w' ⟨rfl, n7, rfl⟩
    by_cases hsg : c3 = 43 ∨ c3 = 45
    ·obtain ⟨hb4, hRe⟩ := Q3.out.2.1 hsg
     have C8 := Lib.hid (show ∀ W, Cp 96 #[.string s, .int .i64 ((p1 : Int) + 1 + 1), .func (.func 52) #[] #[]] W fun e w' => e = .returned (.int .i64 (R : Nat)) ∧ ∃ n, w' = W.drewN n from fun W => by
      rw [← HR.out, hRe]; exact xdec_end s (p1 + 2) W HS.out (by rw [us_length] at hb4; omega))
     clear hb4 hRe
     rcases hsg with rfl | rfl
     all_goals
      go_wp2_with fail
      with_reducible refine (C8.out _).mono ?_
      rintro e w' ⟨rfl, n8, rfl⟩
      go_wp2
      go_ret
      exact ⟨rfl, n1 + n2 + n3 + n4 + n6 + n7 + n8, by first | rfl | simp⟩
    ·have hRe := Q3.out.2.2 (by omega)
     have hb3 := Q3.out.1
     have C8 := Lib.hid (show ∀ W, Cp 96 #[.string s, .int .i64 ((p1 : Int) + 1), .func (.func 52) #[] #[]] W fun e w' => e = .returned (.int .i64 (R : Nat)) ∧ ∃ n, w' = W.drewN n from fun W => by
      rw [← HR.out, hRe]; exact xdec_end s (p1 + 1) W HS.out (by rw [us_length] at hb3; omega))
     have f1 : ((c3 : Int) == 43) = false := by rw [beq_eq_false_iff_ne]; omega
     have f2 : ((c3 : Int) == 45) = false := by rw [beq_eq_false_iff_ne]; omega
     clear hb3 hRe hsg
     go_wp2_with fail
     with_reducible refine (C8.out _).mono ?_
     rintro e w' ⟨rfl, n8, rfl⟩
     go_wp2
     go_ret
     exact ⟨rfl, n1 + n2 + n3 + n4 + n6 + n7 + n8, by first | rfl | simp⟩
  ·have HRe := Lib.hid (Q1.out (by omega))
   have f1 : ((c2 : Int) != 101) = true := by simp; omega
   have f2 : ((c2 : Int) != 69) = true := by simp; omega
   have hRp : R = p1 := by rw [← HR.out, HRe.out]
   subst hRp
   clear he HRe
   go_wp2_with fail
   refine (C6.out _).mono ?_
   rintro e w' ⟨rfl, n6, rfl⟩
   go_wp2
   go_ret
   exact ⟨rfl, n1 + n2 + n3 + n4 + n6, by first | rfl | simp⟩
theorem xnumberEnd_any (s : ByteArray) (k : Nat) (w : World) (hs : s.size ≤ 140737488355328) (hk : k ≤ ln s) :
  Cp 78 #[.string s, .int .i64 k] w fun e w' => e = .returned (.int .i64 ((k + numP ((us s).drop k) : Nat) : Int)) ∧ ∃ n, w' = w.drewN n := by
 cases hx : hxA ((us s).drop k)
 ·by_cases h48 : hd0 ((us s).drop k) = 48
  ·have h49 : hd0 ((us s).drop (k + 1)) ≠ 120 ∧ hd0 ((us s).drop (k + 1)) ≠ 88 := by
    rw [hxA_hd, h48] at hx
    simpa using hx
   exact xnumberEnd_b s k w hs hk h48 h49
  ·exact xnumberEnd_a s k w hs hk h48
 ·exact xnumberEnd_hex s k w hs hk hx

end Go.Proofs.YtjmplgbhjpldbaaGreatDoor
namespace Go.Proofs.YtjmplgbhjpldbaaGreatDoor
open Go.RowKit
set_option maxRecDepth 100000 in
set_option maxHeartbeats 2000000 in
theorem xnumber_any (s : ByteArray) (k : Nat) (w : World) (hs : s.size ≤ 140737488355328) (hk : k ≤ ln s) :
  Cp 53 #[.string s, .int .i64 k] w fun e w' => e = TokE (nmV k ((us s).drop k)) ∧ Below w.heap.size w w' := by
 have hs63 : s.size ≤ maxLen := by unfold maxLen; omega
 have hln := ln_le s
 obtain ⟨l, hl⟩ : ∃ l, (us s).drop k = l := ⟨_, rfl⟩
 obtain ⟨n, hn⟩ : ∃ n, numP l = n := ⟨_, rfl⟩
 have hkn : k + n ≤ ln s := by
  have h1 := numP_le l
  have h2 := congrArg List.length hl
  rw [List.length_drop, us_length] at h2
  omega
 have C1 := fun W => xnumberEnd_any s k W hs hk
 rw [hl, hn] at C1
 have C1 := Lib.hid C1
 obtain ⟨X, hX⟩ : ∃ X, slS s (k : Int) ((k + n : Nat) : Int) = X := ⟨_, rfl⟩
 have hu : us X = l.take n := by
  have h := us_slS s k (k + n) hkn
  rw [hX, hl, Nat.add_sub_cancel_left] at h
  exact h
 have hXs : X.size ≤ 140737488355328 := by
  have h2 := slS_bL s k n hkn
  rw [hX] at h2
  rw [h2]
  show (bL _).toArray.size ≤ _
  rw [List.size_toArray, bL_length, List.length_take]
  omega
 have C2 := fun W => slice_any s (k : Int) ((k + n : Nat) : Int) W hs63
 rw [hX] at C2
 have C2 := Lib.hid C2
 have C3 := fun W => tLiteral_any X W hXs
 have hna := numP_asc l
 rw [hn] at hna
 rw [hu, nrw_low hna] at C3
 have C3 := Lib.hid C3
 obtain ⟨d, hd⟩ : ∃ d, hd0 ((us s).drop (k + n)) = d := ⟨_, rfl⟩
 have C4 := fun W => xunit_any s (k + n) W hs63
 rw [hd] at C4
 have C4 := Lib.hid C4
 have C5 := Lib.hid (fun W => part_n d W)
 have hO : numO l n = (litB (l.take n) && !(ptN d || d == 92)) := by
  unfold numO
  rw [← hd, ← hl, List.drop_drop]
 rw [hl]
 have hV : nmV k l = if (litB (l.take n) && !(ptN d || d == 92)) = true then some (tkV 5 ⟨#[]⟩ (litV (l.take n)) false false 0 (k + n)) else none := by
  unfold nmV
  rw [hn, hO]
 rw [hV]
 have T0 := Lib.hid (TB.start w)
 obtain ⟨F, hF⟩ : ∃ F, litV (l.take n) = F := ⟨_, rfl⟩
 obtain ⟨m, hm⟩ : ∃ m, k + n = m := ⟨_, rfl⟩
 rw [hF] at C3 ⊢
 rw [hm] at C1 C2 C4 ⊢
 clear hln hX hu hXs hna hd hO hV hl hn hF hs63 hs hkn hm
 cases hb : litB (l.take n)
 ·rw [hb] at C3
  rw [Bool.false_and, if_neg (by simp)]
  clear hb
  go_enter Tryz.func53, Tryz.ntmps53
  go_wp2_with fail
  refine (C1.out _).mono ?_
  rintro e w' ⟨rfl, n1, rfl⟩
  go_wp2_with fail
  refine (C2.out _).mono ?_
  rintro e w' ⟨rfl, rfl⟩
  go_wp2_with fail
  refine (C3.out _).mono ?_
  rintro e w1 ⟨rfl, b1⟩
  have T1 := (T0.out.draw n1).step b1
  go_wp2_with fail
  refine (C4.out _).mono ?_
  rintro e w' ⟨rfl, n4, rfl⟩
  have T2 := T1.draw n4
  have HG := Lib.hid T2.bl
  have HB := Lib.hid T2.bw
  clear T1 T2 b1
  go_wp2_with (first | (refine wpList_store_row rfl 24 _ _ rfl w.heap.size #[.int .i64 0, .string ⟨#[]⟩, .float .f64 0, .bool false, .bool false, .int .i64 0, .int .i64 0] rfl rfl 24 #[.int .i64 0, .string ⟨#[]⟩, .float .f64 0, .bool false, .bool false, .int .i64 0, .int .i64 0] HG.out (by first | kernel_rfl | rfl) rfl (by first | kernel_rfl | rfl) ?_))
  refine bodyPost_ret (results_cell_tmp rfl _ _ _ _ _ rfl (run_loadVar_row _ w.heap.size 24 24 _ (0, 0) _ (setRow_heap _ _ _ _ _ _ HG.out) Tryz.underlying24 rfl (by first | kernel_rfl | rfl))) rfl ⟨?_, below_setRowK HB.out (Nat.le_refl _) _⟩
  rfl
 ·rw [hb] at C3
  rw [Bool.true_and]
  clear hb
  cases hp : ptN d
  ·rw [hp] at C5
   clear hp
   by_cases h92 : d = 92
   ·subst h92
    rw [if_neg (by simp)]
    go_enter Tryz.func53, Tryz.ntmps53
    go_wp2_with fail
    refine (C1.out _).mono ?_
    rintro e w' ⟨rfl, n1, rfl⟩
    go_wp2_with fail
    refine (C2.out _).mono ?_
    rintro e w' ⟨rfl, rfl⟩
    go_wp2_with fail
    refine (C3.out _).mono ?_
    rintro e w1 ⟨rfl, b1⟩
    have T1 := (T0.out.draw n1).step b1
    go_wp2_with fail
    refine (C4.out _).mono ?_
    rintro e w' ⟨rfl, n4, rfl⟩
    have T2 := T1.draw n4
    go_wp2_with fail
    refine (C5.out _).mono ?_
    rintro e w' ⟨rfl, rfl⟩
    have HG := Lib.hid T2.bl
    have HB := Lib.hid T2.bw
    clear T1 T2 b1
    go_wp2_with (first | (refine wpList_store_row rfl 24 _ _ rfl w.heap.size #[.int .i64 0, .string ⟨#[]⟩, .float .f64 0, .bool false, .bool false, .int .i64 0, .int .i64 0] rfl rfl 24 #[.int .i64 0, .string ⟨#[]⟩, .float .f64 0, .bool false, .bool false, .int .i64 0, .int .i64 0] HG.out (by first | kernel_rfl | rfl) rfl (by first | kernel_rfl | rfl) ?_))
    refine bodyPost_ret (results_cell_tmp rfl _ _ _ _ _ rfl (run_loadVar_row _ w.heap.size 24 24 _ (0, 0) _ (setRow_heap _ _ _ _ _ _ HG.out) Tryz.underlying24 rfl (by first | kernel_rfl | rfl))) rfl ⟨?_, below_setRowK HB.out (Nat.le_refl _) _⟩
    rfl
   ·have g1 : ¬ ((d : Int) = 92) := by omega
    rw [if_pos (by simpa using h92)]
    clear h92
    go_enter Tryz.func53, Tryz.ntmps53
    go_wp2_with fail
    refine (C1.out _).mono ?_
    rintro e w' ⟨rfl, n1, rfl⟩
    go_wp2_with fail
    refine (C2.out _).mono ?_
    rintro e w' ⟨rfl, rfl⟩
    go_wp2_with fail
    refine (C3.out _).mono ?_
    rintro e w1 ⟨rfl, b1⟩
    have T1 := (T0.out.draw n1).step b1
    go_wp2_with fail
    refine (C4.out _).mono ?_
    rintro e w' ⟨rfl, n4, rfl⟩
    have T2 := T1.draw n4
    go_wp2_with fail
    refine (C5.out _).mono ?_
    rintro e w' ⟨rfl, rfl⟩
    have HG := Lib.hid T2.bl
    have HB := Lib.hid T2.bw
    clear T1 T2 b1
    go_wp2_with (first | (refine wpList_store_row rfl 24 _ _ rfl w.heap.size #[.int .i64 5, .string ⟨#[]⟩, .float .f64 F, .bool false, .bool false, .int .i64 0, .int .i64 (m : Int)] rfl rfl 24 #[.int .i64 0, .string ⟨#[]⟩, .float .f64 0, .bool false, .bool false, .int .i64 0, .int .i64 0] HG.out (by first | kernel_rfl | rfl) rfl (by first | kernel_rfl | rfl) ?_))
    refine bodyPost_ret (results_cell_tmp rfl _ _ _ _ _ rfl (run_loadVar_row _ w.heap.size 24 24 _ (0, 0) _ (setRow_heap _ _ _ _ _ _ HG.out) Tryz.underlying24 rfl (by first | kernel_rfl | rfl))) rfl ⟨?_, below_setRowK HB.out (Nat.le_refl _) _⟩
    rfl
  ·rw [hp] at C5
   clear hp
   rw [if_neg (by simp)]
   go_enter Tryz.func53, Tryz.ntmps53
   go_wp2_with fail
   refine (C1.out _).mono ?_
   rintro e w' ⟨rfl, n1, rfl⟩
   go_wp2_with fail
   refine (C2.out _).mono ?_
   rintro e w' ⟨rfl, rfl⟩
   go_wp2_with fail
   refine (C3.out _).mono ?_
   rintro e w1 ⟨rfl, b1⟩
   have T1 := (T0.out.draw n1).step b1
   go_wp2_with fail
   refine (C4.out _).mono ?_
   rintro e w' ⟨rfl, n4, rfl⟩
   have T2 := T1.draw n4
   go_wp2_with fail
   refine (C5.out _).mono ?_
   rintro e w' ⟨rfl, rfl⟩
   have HG := Lib.hid T2.bl
   have HB := Lib.hid T2.bw
   clear T1 T2 b1
   go_wp2_with (first | (refine wpList_store_row rfl 24 _ _ rfl w.heap.size #[.int .i64 0, .string ⟨#[]⟩, .float .f64 0, .bool false, .bool false, .int .i64 0, .int .i64 0] rfl rfl 24 #[.int .i64 0, .string ⟨#[]⟩, .float .f64 0, .bool false, .bool false, .int .i64 0, .int .i64 0] HG.out (by first | kernel_rfl | rfl) rfl (by first | kernel_rfl | rfl) ?_))
   refine bodyPost_ret (results_cell_tmp rfl _ _ _ _ _ rfl (run_loadVar_row _ w.heap.size 24 24 _ (0, 0) _ (setRow_heap _ _ _ _ _ _ HG.out) Tryz.underlying24 rfl (by first | kernel_rfl | rfl))) rfl ⟨?_, below_setRowK HB.out (Nat.le_refl _) _⟩
   rfl

end Go.Proofs.YtjmplgbhjpldbaaGreatDoor
namespace Go.Proofs.YtjmplgbhjpldbaaGreatDoor
open Go.RowKit
def tokO (k : Nat) (o : Option (Nat × List Nat × Nat × Bool × Nat)) : Option Value := o.map fun p => tkV p.1 ⟨(bL p.2.1).toArray⟩ p.2.2.1 p.2.2.2.1 false 0 (k + p.2.2.2.2)
theorem start_n (u : Nat) (w : World) : Cq 49 #[.int .u16 u] (.bool (stN u)) w := start_any u w
set_option maxRecDepth 100000 in
set_option maxHeartbeats 4000000 in
theorem xread_name (s : ByteArray) (k c : Nat) (w : World) (o : Option (Nat × List Nat × Nat × Bool × Nat)) (_hkl : (k : Int) ≤ 70368744177664) (h : (stN c || c == 92) = true)
  (C1 : Hid (∀ W, Cp 48 #[.string s, .int .i64 k] W fun e w' => e = .returned (.tuple #[.int .u16 (c : Nat), .bool true]) ∧ ∃ n, w' = W.drewN n))
  (CC : Hid (∀ W, Cp 50 #[.string s, .int .i64 k] W fun e w' => e = TokE (tokO k o) ∧ Below W.heap.size W w')) :
  Cp 32 #[.string s, .int .i64 k] w fun e w' => e = TokE (tokO k o) ∧ Below w.heap.size w w' := by
 have CS := Lib.hid (fun W => start_n c W)
 have CD := Lib.hid (fun W => xdecimal_any c W)
 have T0 := Lib.hid (TB.start w)
 cases hst : stN c
 ·have h92 : c = 92 := by rw [hst] at h; simpa using h
  rw [hst] at CS
  subst h92
  clear h hst CD
  cases o with
  | none =>
   have CC := Lib.hid (show ∀ W, Cp 50 #[.string s, .int .i64 k] W fun e w' => e = .returned (.tuple #[.agg #[.int .i64 0, .string ⟨#[]⟩, .float .f64 0, .bool false, .bool false, .int .i64 0, .int .i64 0], .bool false]) ∧ Below W.heap.size W w' from CC.out)
   go_enter Tryz.func32, Tryz.ntmps32
   go_wp2_with fail
   refine (C1.out _).mono ?_
   rintro e w' ⟨rfl, n1, rfl⟩
   go_wp2_with fail
   refine (CS.out _).mono ?_
   rintro e w' ⟨rfl, rfl⟩
   go_wp2_with fail
   refine (CC.out _).mono ?_
   rintro e w1 ⟨rfl, b1⟩
   have T1 := (T0.out.draw (n1)).step b1
   have HG := Lib.hid T1.bl
   have HB := Lib.hid T1.bw
   clear T1 b1
   go_wp2_with (first | (refine wpList_store_row rfl 24 _ _ rfl w.heap.size #[.int .i64 0, .string ⟨#[]⟩, .float .f64 0, .bool false, .bool false, .int .i64 0, .int .i64 0] rfl rfl 24 #[.int .i64 0, .string ⟨#[]⟩, .float .f64 0, .bool false, .bool false, .int .i64 0, .int .i64 0] HG.out (by first | kernel_rfl | rfl) rfl (by first | kernel_rfl | rfl) ?_))
   refine bodyPost_ret (results_cell_tmp rfl _ _ _ _ _ rfl (run_loadVar_row _ w.heap.size 24 24 _ (0, 0) _ (setRow_heap _ _ _ _ _ _ HG.out) Tryz.underlying24 rfl (by first | kernel_rfl | rfl))) rfl ⟨?_, below_setRowK HB.out (Nat.le_refl _) _⟩
   rfl
  | some p =>
   have CC := Lib.hid (show ∀ W, Cp 50 #[.string s, .int .i64 k] W fun e w' => e = .returned (.tuple #[.agg #[.int .i64 ((p.1 : Nat) : Int), .string ⟨(bL p.2.1).toArray⟩, .float .f64 p.2.2.1, .bool p.2.2.2.1, .bool false, .int .i64 0, .int .i64 ((k + p.2.2.2.2 : Nat) : Int)], .bool true]) ∧ Below W.heap.size W w' from CC.out)
   have HE : Hid (TokE (tokO k (some p)) = .returned (.tuple #[.agg #[.int .i64 ((p.1 : Nat) : Int), .string ⟨(bL p.2.1).toArray⟩, .float .f64 p.2.2.1, .bool p.2.2.2.1, .bool false, .int .i64 0, .int .i64 ((k + p.2.2.2.2 : Nat) : Int)], .bool true])) := Lib.hid rfl
   obtain ⟨kd, hkd⟩ : ∃ kd : Int, ((p.1 : Nat) : Int) = kd := ⟨_, rfl⟩
   obtain ⟨tx, htx⟩ : ∃ tx : ByteArray, (⟨(bL p.2.1).toArray⟩ : ByteArray) = tx := ⟨_, rfl⟩
   obtain ⟨xx, hxx⟩ : ∃ xx, p.2.2.1 = xx := ⟨_, rfl⟩
   obtain ⟨es, hes⟩ : ∃ es, p.2.2.2.1 = es := ⟨_, rfl⟩
   obtain ⟨fi, hfi⟩ : ∃ fi : Int, ((k + p.2.2.2.2 : Nat) : Int) = fi := ⟨_, rfl⟩
   rw [hkd, htx, hxx, hes, hfi] at CC HE
   clear hkd htx hxx hes hfi
   go_enter Tryz.func32, Tryz.ntmps32
   go_wp2_with fail
   refine (C1.out _).mono ?_
   rintro e w' ⟨rfl, n1, rfl⟩
   go_wp2_with fail
   refine (CS.out _).mono ?_
   rintro e w' ⟨rfl, rfl⟩
   go_wp2_with fail
   refine (CC.out _).mono ?_
   rintro e w1 ⟨rfl, b1⟩
   have T1 := (T0.out.draw (n1)).step b1
   have HG := Lib.hid T1.bl
   have HB := Lib.hid T1.bw
   clear T1 b1
   go_wp2_with (first | (refine wpList_store_row rfl 24 _ _ rfl w.heap.size #[.int .i64 (kd : Int), .string tx, .float .f64 xx, .bool es, .bool false, .int .i64 0, .int .i64 fi] rfl rfl 24 #[.int .i64 0, .string ⟨#[]⟩, .float .f64 0, .bool false, .bool false, .int .i64 0, .int .i64 0] HG.out (by first | kernel_rfl | rfl) rfl (by first | kernel_rfl | rfl) ?_))
   refine bodyPost_ret (results_cell_tmp rfl _ _ _ _ _ rfl (run_loadVar_row _ w.heap.size 24 24 _ (0, 0) _ (setRow_heap _ _ _ _ _ _ HG.out) Tryz.underlying24 rfl (by first | kernel_rfl | rfl))) rfl ⟨?_, below_setRowK HB.out (Nat.le_refl _) _⟩
   exact HE.out.symm
 ·rw [hst] at CS
  clear h hst CD
  cases o with
  | none =>
   have CC := Lib.hid (show ∀ W, Cp 50 #[.string s, .int .i64 k] W fun e w' => e = .returned (.tuple #[.agg #[.int .i64 0, .string ⟨#[]⟩, .float .f64 0, .bool false, .bool false, .int .i64 0, .int .i64 0], .bool false]) ∧ Below W.heap.size W w' from CC.out)
   go_enter Tryz.func32, Tryz.ntmps32
   go_wp2_with fail
   refine (C1.out _).mono ?_
   rintro e w' ⟨rfl, n1, rfl⟩
   go_wp2_with fail
   refine (CS.out _).mono ?_
   rintro e w' ⟨rfl, rfl⟩
   go_wp2_with fail
   refine (CC.out _).mono ?_
   rintro e w1 ⟨rfl, b1⟩
   have T1 := (T0.out.draw (n1)).step b1
   have HG := Lib.hid T1.bl
   have HB := Lib.hid T1.bw
   clear T1 b1
   go_wp2_with (first | (refine wpList_store_row rfl 24 _ _ rfl w.heap.size #[.int .i64 0, .string ⟨#[]⟩, .float .f64 0, .bool false, .bool false, .int .i64 0, .int .i64 0] rfl rfl 24 #[.int .i64 0, .string ⟨#[]⟩, .float .f64 0, .bool false, .bool false, .int .i64 0, .int .i64 0] HG.out (by first | kernel_rfl | rfl) rfl (by first | kernel_rfl | rfl) ?_))
   refine bodyPost_ret (results_cell_tmp rfl _ _ _ _ _ rfl (run_loadVar_row _ w.heap.size 24 24 _ (0, 0) _ (setRow_heap _ _ _ _ _ _ HG.out) Tryz.underlying24 rfl (by first | kernel_rfl | rfl))) rfl ⟨?_, below_setRowK HB.out (Nat.le_refl _) _⟩
   rfl
  | some p =>
   have CC := Lib.hid (show ∀ W, Cp 50 #[.string s, .int .i64 k] W fun e w' => e = .returned (.tuple #[.agg #[.int .i64 ((p.1 : Nat) : Int), .string ⟨(bL p.2.1).toArray⟩, .float .f64 p.2.2.1, .bool p.2.2.2.1, .bool false, .int .i64 0, .int .i64 ((k + p.2.2.2.2 : Nat) : Int)], .bool true]) ∧ Below W.heap.size W w' from CC.out)
   have HE : Hid (TokE (tokO k (some p)) = .returned (.tuple #[.agg #[.int .i64 ((p.1 : Nat) : Int), .string ⟨(bL p.2.1).toArray⟩, .float .f64 p.2.2.1, .bool p.2.2.2.1, .bool false, .int .i64 0, .int .i64 ((k + p.2.2.2.2 : Nat) : Int)], .bool true])) := Lib.hid rfl
   obtain ⟨kd, hkd⟩ : ∃ kd : Int, ((p.1 : Nat) : Int) = kd := ⟨_, rfl⟩
   obtain ⟨tx, htx⟩ : ∃ tx : ByteArray, (⟨(bL p.2.1).toArray⟩ : ByteArray) = tx := ⟨_, rfl⟩
   obtain ⟨xx, hxx⟩ : ∃ xx, p.2.2.1 = xx := ⟨_, rfl⟩
   obtain ⟨es, hes⟩ : ∃ es, p.2.2.2.1 = es := ⟨_, rfl⟩
   obtain ⟨fi, hfi⟩ : ∃ fi : Int, ((k + p.2.2.2.2 : Nat) : Int) = fi := ⟨_, rfl⟩
   rw [hkd, htx, hxx, hes, hfi] at CC HE
   clear hkd htx hxx hes hfi
   go_enter Tryz.func32, Tryz.ntmps32
   go_wp2_with fail
   refine (C1.out _).mono ?_
   rintro e w' ⟨rfl, n1, rfl⟩
   go_wp2_with fail
   refine (CS.out _).mono ?_
   rintro e w' ⟨rfl, rfl⟩
   go_wp2_with fail
   refine (CC.out _).mono ?_
   rintro e w1 ⟨rfl, b1⟩
   have T1 := (T0.out.draw (n1)).step b1
   have HG := Lib.hid T1.bl
   have HB := Lib.hid T1.bw
   clear T1 b1
   go_wp2_with (first | (refine wpList_store_row rfl 24 _ _ rfl w.heap.size #[.int .i64 (kd : Int), .string tx, .float .f64 xx, .bool es, .bool false, .int .i64 0, .int .i64 fi] rfl rfl 24 #[.int .i64 0, .string ⟨#[]⟩, .float .f64 0, .bool false, .bool false, .int .i64 0, .int .i64 0] HG.out (by first | kernel_rfl | rfl) rfl (by first | kernel_rfl | rfl) ?_))
   refine bodyPost_ret (results_cell_tmp rfl _ _ _ _ _ rfl (run_loadVar_row _ w.heap.size 24 24 _ (0, 0) _ (setRow_heap _ _ _ _ _ _ HG.out) Tryz.underlying24 rfl (by first | kernel_rfl | rfl))) rfl ⟨?_, below_setRowK HB.out (Nat.le_refl _) _⟩
   exact HE.out.symm
set_option maxRecDepth 100000 in
set_option maxHeartbeats 4000000 in
theorem xread_quoted (s : ByteArray) (k c : Nat) (w : World) (o : Option (Nat × List Nat × Nat × Bool × Nat)) (_hkl : (k : Int) ≤ 70368744177664) (h : c = 34 ∨ c = 39)
  (C1 : Hid (∀ W, Cp 48 #[.string s, .int .i64 k] W fun e w' => e = .returned (.tuple #[.int .u16 (c : Nat), .bool true]) ∧ ∃ n, w' = W.drewN n))
  (CC : Hid (∀ W, Cp 51 #[.string s, .int .i64 k] W fun e w' => e = TokE (tokO k o) ∧ Below W.heap.size W w')) :
  Cp 32 #[.string s, .int .i64 k] w fun e w' => e = TokE (tokO k o) ∧ Below w.heap.size w w' := by
 have CS := Lib.hid (fun W => start_n c W)
 have CD := Lib.hid (fun W => xdecimal_any c W)
 have T0 := Lib.hid (TB.start w)
 rcases h with rfl | rfl
 all_goals
  have CS := Lib.hid (show ∀ W, Cp 49 #[.int .u16 _] W fun e w' => e = .returned (.bool false) ∧ W = w' from CS.out)
  clear CD
  cases o with
  | none =>
   have CC := Lib.hid (show ∀ W, Cp 51 #[.string s, .int .i64 k] W fun e w' => e = .returned (.tuple #[.agg #[.int .i64 0, .string ⟨#[]⟩, .float .f64 0, .bool false, .bool false, .int .i64 0, .int .i64 0], .bool false]) ∧ Below W.heap.size W w' from CC.out)
   go_enter Tryz.func32, Tryz.ntmps32
   go_wp2_with fail
   refine (C1.out _).mono ?_
   rintro e w' ⟨rfl, n1, rfl⟩
   go_wp2_with fail
   refine (CS.out _).mono ?_
   rintro e w' ⟨rfl, rfl⟩
   go_wp2_with fail
   refine (CC.out _).mono ?_
   rintro e w1 ⟨rfl, b1⟩
   have T1 := (T0.out.draw (n1)).step b1
   have HG := Lib.hid T1.bl
   have HB := Lib.hid T1.bw
   clear T1 b1
   go_wp2_with (first | (refine wpList_store_row rfl 24 _ _ rfl w.heap.size #[.int .i64 0, .string ⟨#[]⟩, .float .f64 0, .bool false, .bool false, .int .i64 0, .int .i64 0] rfl rfl 24 #[.int .i64 0, .string ⟨#[]⟩, .float .f64 0, .bool false, .bool false, .int .i64 0, .int .i64 0] HG.out (by first | kernel_rfl | rfl) rfl (by first | kernel_rfl | rfl) ?_))
   refine bodyPost_ret (results_cell_tmp rfl _ _ _ _ _ rfl (run_loadVar_row _ w.heap.size 24 24 _ (0, 0) _ (setRow_heap _ _ _ _ _ _ HG.out) Tryz.underlying24 rfl (by first | kernel_rfl | rfl))) rfl ⟨?_, below_setRowK HB.out (Nat.le_refl _) _⟩
   rfl
  | some p =>
   have CC := Lib.hid (show ∀ W, Cp 51 #[.string s, .int .i64 k] W fun e w' => e = .returned (.tuple #[.agg #[.int .i64 ((p.1 : Nat) : Int), .string ⟨(bL p.2.1).toArray⟩, .float .f64 p.2.2.1, .bool p.2.2.2.1, .bool false, .int .i64 0, .int .i64 ((k + p.2.2.2.2 : Nat) : Int)], .bool true]) ∧ Below W.heap.size W w' from CC.out)
   have HE : Hid (TokE (tokO k (some p)) = .returned (.tuple #[.agg #[.int .i64 ((p.1 : Nat) : Int), .string ⟨(bL p.2.1).toArray⟩, .float .f64 p.2.2.1, .bool p.2.2.2.1, .bool false, .int .i64 0, .int .i64 ((k + p.2.2.2.2 : Nat) : Int)], .bool true])) := Lib.hid rfl
   obtain ⟨kd, hkd⟩ : ∃ kd : Int, ((p.1 : Nat) : Int) = kd := ⟨_, rfl⟩
   obtain ⟨tx, htx⟩ : ∃ tx : ByteArray, (⟨(bL p.2.1).toArray⟩ : ByteArray) = tx := ⟨_, rfl⟩
   obtain ⟨xx, hxx⟩ : ∃ xx, p.2.2.1 = xx := ⟨_, rfl⟩
   obtain ⟨es, hes⟩ : ∃ es, p.2.2.2.1 = es := ⟨_, rfl⟩
   obtain ⟨fi, hfi⟩ : ∃ fi : Int, ((k + p.2.2.2.2 : Nat) : Int) = fi := ⟨_, rfl⟩
   rw [hkd, htx, hxx, hes, hfi] at CC HE
   clear hkd htx hxx hes hfi
   go_enter Tryz.func32, Tryz.ntmps32
   go_wp2_with fail
   refine (C1.out _).mono ?_
   rintro e w' ⟨rfl, n1, rfl⟩
   go_wp2_with fail
   refine (CS.out _).mono ?_
   rintro e w' ⟨rfl, rfl⟩
   go_wp2_with fail
   refine (CC.out _).mono ?_
   rintro e w1 ⟨rfl, b1⟩
   have T1 := (T0.out.draw (n1)).step b1
   have HG := Lib.hid T1.bl
   have HB := Lib.hid T1.bw
   clear T1 b1
   go_wp2_with (first | (refine wpList_store_row rfl 24 _ _ rfl w.heap.size #[.int .i64 (kd : Int), .string tx, .float .f64 xx, .bool es, .bool false, .int .i64 0, .int .i64 fi] rfl rfl 24 #[.int .i64 0, .string ⟨#[]⟩, .float .f64 0, .bool false, .bool false, .int .i64 0, .int .i64 0] HG.out (by first | kernel_rfl | rfl) rfl (by first | kernel_rfl | rfl) ?_))
   refine bodyPost_ret (results_cell_tmp rfl _ _ _ _ _ rfl (run_loadVar_row _ w.heap.size 24 24 _ (0, 0) _ (setRow_heap _ _ _ _ _ _ HG.out) Tryz.underlying24 rfl (by first | kernel_rfl | rfl))) rfl ⟨?_, below_setRowK HB.out (Nat.le_refl _) _⟩
   exact HE.out.symm
set_option maxRecDepth 100000 in
set_option maxHeartbeats 4000000 in
theorem xread_number (s : ByteArray) (k c : Nat) (w : World) (o : Option (Nat × List Nat × Nat × Bool × Nat)) (hkl : (k : Int) ≤ 70368744177664) (hst : stN c = false) (h92 : c ≠ 92) (h34 : c ≠ 34) (h39 : c ≠ 39) (d : Nat) (CU : Hid (∀ W, Cp 31 #[.string s, .int .i64 ((k : Int) + 1)] W fun e w' => e = .returned (.int .u16 (d : Nat)) ∧ ∃ n, w' = W.drewN n)) (h : (dg10 c || (c == 46 && dg10 d)) = true)
  (C1 : Hid (∀ W, Cp 48 #[.string s, .int .i64 k] W fun e w' => e = .returned (.tuple #[.int .u16 (c : Nat), .bool true]) ∧ ∃ n, w' = W.drewN n))
  (CC : Hid (∀ W, Cp 53 #[.string s, .int .i64 k] W fun e w' => e = TokE (tokO k o) ∧ Below W.heap.size W w')) :
  Cp 32 #[.string s, .int .i64 k] w fun e w' => e = TokE (tokO k o) ∧ Below w.heap.size w w' := by
 have CS := Lib.hid (fun W => start_n c W)
 have CD := Lib.hid (fun W => xdecimal_any c W)
 have T0 := Lib.hid (TB.start w)
 rw [hst] at CS
 have g1 : ((c : Int) == 92) = false := by rw [beq_eq_false_iff_ne]; omega
 have g2 : ((c : Int) == 34) = false := by rw [beq_eq_false_iff_ne]; omega
 have g3 : ((c : Int) == 39) = false := by rw [beq_eq_false_iff_ne]; omega
 clear hst h92 h34 h39
 cases hd : dg10 c
 ·rw [hd] at CD h
  have h46 : c = 46 ∧ dg10 d = true := by simpa using h
  have CD2 := fun W => xdecimal_any d W
  rw [h46.2] at CD2
  have CD2 := Lib.hid CD2
  have h46 := h46.1
  subst h46
  clear h hd g1 g2 g3
  cases o with
  | none =>
   have CC := Lib.hid (show ∀ W, Cp 53 #[.string s, .int .i64 k] W fun e w' => e = .returned (.tuple #[.agg #[.int .i64 0, .string ⟨#[]⟩, .float .f64 0, .bool false, .bool false, .int .i64 0, .int .i64 0], .bool false]) ∧ Below W.heap.size W w' from CC.out)
   go_enter Tryz.func32, Tryz.ntmps32
   go_wp2_with fail
   refine (C1.out _).mono ?_
   rintro e w' ⟨rfl, n1, rfl⟩
   go_wp2_with fail
   refine (CS.out _).mono ?_
   rintro e w' ⟨rfl, rfl⟩
   go_wp2_with fail
   refine (CD.out _).mono ?_
   rintro e w' ⟨rfl, rfl⟩
   go_wp2_with fail
   refine (CU.out _).mono ?_
   rintro e w' ⟨rfl, n2, rfl⟩
   go_wp2_with fail
   refine (CD2.out _).mono ?_
   rintro e w' ⟨rfl, rfl⟩
   go_wp2_with fail
   refine (CC.out _).mono ?_
   rintro e w1 ⟨rfl, b1⟩
   have T1 := (T0.out.draw (n1 + n2)).step b1
   have HG := Lib.hid T1.bl
   have HB := Lib.hid T1.bw
   clear T1 b1
   go_wp2_with (first | (refine wpList_store_row rfl 24 _ _ rfl w.heap.size #[.int .i64 0, .string ⟨#[]⟩, .float .f64 0, .bool false, .bool false, .int .i64 0, .int .i64 0] rfl rfl 24 #[.int .i64 0, .string ⟨#[]⟩, .float .f64 0, .bool false, .bool false, .int .i64 0, .int .i64 0] HG.out (by first | kernel_rfl | rfl) rfl (by first | kernel_rfl | rfl) ?_))
   refine bodyPost_ret (results_cell_tmp rfl _ _ _ _ _ rfl (run_loadVar_row _ w.heap.size 24 24 _ (0, 0) _ (setRow_heap _ _ _ _ _ _ HG.out) Tryz.underlying24 rfl (by first | kernel_rfl | rfl))) rfl ⟨?_, below_setRowK HB.out (Nat.le_refl _) _⟩
   rfl
  | some p =>
   have CC := Lib.hid (show ∀ W, Cp 53 #[.string s, .int .i64 k] W fun e w' => e = .returned (.tuple #[.agg #[.int .i64 ((p.1 : Nat) : Int), .string ⟨(bL p.2.1).toArray⟩, .float .f64 p.2.2.1, .bool p.2.2.2.1, .bool false, .int .i64 0, .int .i64 ((k + p.2.2.2.2 : Nat) : Int)], .bool true]) ∧ Below W.heap.size W w' from CC.out)
   have HE : Hid (TokE (tokO k (some p)) = .returned (.tuple #[.agg #[.int .i64 ((p.1 : Nat) : Int), .string ⟨(bL p.2.1).toArray⟩, .float .f64 p.2.2.1, .bool p.2.2.2.1, .bool false, .int .i64 0, .int .i64 ((k + p.2.2.2.2 : Nat) : Int)], .bool true])) := Lib.hid rfl
   obtain ⟨kd, hkd⟩ : ∃ kd : Int, ((p.1 : Nat) : Int) = kd := ⟨_, rfl⟩
   obtain ⟨tx, htx⟩ : ∃ tx : ByteArray, (⟨(bL p.2.1).toArray⟩ : ByteArray) = tx := ⟨_, rfl⟩
   obtain ⟨xx, hxx⟩ : ∃ xx, p.2.2.1 = xx := ⟨_, rfl⟩
   obtain ⟨es, hes⟩ : ∃ es, p.2.2.2.1 = es := ⟨_, rfl⟩
   obtain ⟨fi, hfi⟩ : ∃ fi : Int, ((k + p.2.2.2.2 : Nat) : Int) = fi := ⟨_, rfl⟩
   rw [hkd, htx, hxx, hes, hfi] at CC HE
   clear hkd htx hxx hes hfi
   go_enter Tryz.func32, Tryz.ntmps32
   go_wp2_with fail
   refine (C1.out _).mono ?_
   rintro e w' ⟨rfl, n1, rfl⟩
   go_wp2_with fail
   refine (CS.out _).mono ?_
   rintro e w' ⟨rfl, rfl⟩
   go_wp2_with fail
   refine (CD.out _).mono ?_
   rintro e w' ⟨rfl, rfl⟩
   go_wp2_with fail
   refine (CU.out _).mono ?_
   rintro e w' ⟨rfl, n2, rfl⟩
   go_wp2_with fail
   refine (CD2.out _).mono ?_
   rintro e w' ⟨rfl, rfl⟩
   go_wp2_with fail
   refine (CC.out _).mono ?_
   rintro e w1 ⟨rfl, b1⟩
   have T1 := (T0.out.draw (n1 + n2)).step b1
   have HG := Lib.hid T1.bl
   have HB := Lib.hid T1.bw
   clear T1 b1
   go_wp2_with (first | (refine wpList_store_row rfl 24 _ _ rfl w.heap.size #[.int .i64 (kd : Int), .string tx, .float .f64 xx, .bool es, .bool false, .int .i64 0, .int .i64 fi] rfl rfl 24 #[.int .i64 0, .string ⟨#[]⟩, .float .f64 0, .bool false, .bool false, .int .i64 0, .int .i64 0] HG.out (by first | kernel_rfl | rfl) rfl (by first | kernel_rfl | rfl) ?_))
   refine bodyPost_ret (results_cell_tmp rfl _ _ _ _ _ rfl (run_loadVar_row _ w.heap.size 24 24 _ (0, 0) _ (setRow_heap _ _ _ _ _ _ HG.out) Tryz.underlying24 rfl (by first | kernel_rfl | rfl))) rfl ⟨?_, below_setRowK HB.out (Nat.le_refl _) _⟩
   exact HE.out.symm
 ·rw [hd] at CD
  clear h hd CU
  cases o with
  | none =>
   have CC := Lib.hid (show ∀ W, Cp 53 #[.string s, .int .i64 k] W fun e w' => e = .returned (.tuple #[.agg #[.int .i64 0, .string ⟨#[]⟩, .float .f64 0, .bool false, .bool false, .int .i64 0, .int .i64 0], .bool false]) ∧ Below W.heap.size W w' from CC.out)
   go_enter Tryz.func32, Tryz.ntmps32
   go_wp2_with fail
   refine (C1.out _).mono ?_
   rintro e w' ⟨rfl, n1, rfl⟩
   go_wp2_with fail
   refine (CS.out _).mono ?_
   rintro e w' ⟨rfl, rfl⟩
   go_wp2_with fail
   refine (CD.out _).mono ?_
   rintro e w' ⟨rfl, rfl⟩
   go_wp2_with fail
   refine (CC.out _).mono ?_
   rintro e w1 ⟨rfl, b1⟩
   have T1 := (T0.out.draw (n1)).step b1
   have HG := Lib.hid T1.bl
   have HB := Lib.hid T1.bw
   clear T1 b1
   go_wp2_with (first | (refine wpList_store_row rfl 24 _ _ rfl w.heap.size #[.int .i64 0, .string ⟨#[]⟩, .float .f64 0, .bool false, .bool false, .int .i64 0, .int .i64 0] rfl rfl 24 #[.int .i64 0, .string ⟨#[]⟩, .float .f64 0, .bool false, .bool false, .int .i64 0, .int .i64 0] HG.out (by first | kernel_rfl | rfl) rfl (by first | kernel_rfl | rfl) ?_))
   refine bodyPost_ret (results_cell_tmp rfl _ _ _ _ _ rfl (run_loadVar_row _ w.heap.size 24 24 _ (0, 0) _ (setRow_heap _ _ _ _ _ _ HG.out) Tryz.underlying24 rfl (by first | kernel_rfl | rfl))) rfl ⟨?_, below_setRowK HB.out (Nat.le_refl _) _⟩
   rfl
  | some p =>
   have CC := Lib.hid (show ∀ W, Cp 53 #[.string s, .int .i64 k] W fun e w' => e = .returned (.tuple #[.agg #[.int .i64 ((p.1 : Nat) : Int), .string ⟨(bL p.2.1).toArray⟩, .float .f64 p.2.2.1, .bool p.2.2.2.1, .bool false, .int .i64 0, .int .i64 ((k + p.2.2.2.2 : Nat) : Int)], .bool true]) ∧ Below W.heap.size W w' from CC.out)
   have HE : Hid (TokE (tokO k (some p)) = .returned (.tuple #[.agg #[.int .i64 ((p.1 : Nat) : Int), .string ⟨(bL p.2.1).toArray⟩, .float .f64 p.2.2.1, .bool p.2.2.2.1, .bool false, .int .i64 0, .int .i64 ((k + p.2.2.2.2 : Nat) : Int)], .bool true])) := Lib.hid rfl
   obtain ⟨kd, hkd⟩ : ∃ kd : Int, ((p.1 : Nat) : Int) = kd := ⟨_, rfl⟩
   obtain ⟨tx, htx⟩ : ∃ tx : ByteArray, (⟨(bL p.2.1).toArray⟩ : ByteArray) = tx := ⟨_, rfl⟩
   obtain ⟨xx, hxx⟩ : ∃ xx, p.2.2.1 = xx := ⟨_, rfl⟩
   obtain ⟨es, hes⟩ : ∃ es, p.2.2.2.1 = es := ⟨_, rfl⟩
   obtain ⟨fi, hfi⟩ : ∃ fi : Int, ((k + p.2.2.2.2 : Nat) : Int) = fi := ⟨_, rfl⟩
   rw [hkd, htx, hxx, hes, hfi] at CC HE
   clear hkd htx hxx hes hfi
   go_enter Tryz.func32, Tryz.ntmps32
   go_wp2_with fail
   refine (C1.out _).mono ?_
   rintro e w' ⟨rfl, n1, rfl⟩
   go_wp2_with fail
   refine (CS.out _).mono ?_
   rintro e w' ⟨rfl, rfl⟩
   go_wp2_with fail
   refine (CD.out _).mono ?_
   rintro e w' ⟨rfl, rfl⟩
   go_wp2_with fail
   refine (CC.out _).mono ?_
   rintro e w1 ⟨rfl, b1⟩
   have T1 := (T0.out.draw (n1)).step b1
   have HG := Lib.hid T1.bl
   have HB := Lib.hid T1.bw
   clear T1 b1
   go_wp2_with (first | (refine wpList_store_row rfl 24 _ _ rfl w.heap.size #[.int .i64 (kd : Int), .string tx, .float .f64 xx, .bool es, .bool false, .int .i64 0, .int .i64 fi] rfl rfl 24 #[.int .i64 0, .string ⟨#[]⟩, .float .f64 0, .bool false, .bool false, .int .i64 0, .int .i64 0] HG.out (by first | kernel_rfl | rfl) rfl (by first | kernel_rfl | rfl) ?_))
   refine bodyPost_ret (results_cell_tmp rfl _ _ _ _ _ rfl (run_loadVar_row _ w.heap.size 24 24 _ (0, 0) _ (setRow_heap _ _ _ _ _ _ HG.out) Tryz.underlying24 rfl (by first | kernel_rfl | rfl))) rfl ⟨?_, below_setRowK HB.out (Nat.le_refl _) _⟩
   exact HE.out.symm
set_option maxRecDepth 100000 in
set_option maxHeartbeats 4000000 in
theorem xread_mark (s : ByteArray) (k c : Nat) (w : World) (o : Option (Nat × List Nat × Nat × Bool × Nat)) (hkl : (k : Int) ≤ 70368744177664) (hst : stN c = false) (h92 : c ≠ 92) (h34 : c ≠ 34) (h39 : c ≠ 39) (d : Nat) (CU : Hid (∀ W, Cp 31 #[.string s, .int .i64 ((k : Int) + 1)] W fun e w' => e = .returned (.int .u16 (d : Nat)) ∧ ∃ n, w' = W.drewN n)) (h : (dg10 c || (c == 46 && dg10 d)) = false)
  (C1 : Hid (∀ W, Cp 48 #[.string s, .int .i64 k] W fun e w' => e = .returned (.tuple #[.int .u16 (c : Nat), .bool true]) ∧ ∃ n, w' = W.drewN n))
  (CC : Hid (∀ W, Cp 54 #[.string s, .int .i64 k] W fun e w' => e = TokE (tokO k o) ∧ Below W.heap.size W w')) :
  Cp 32 #[.string s, .int .i64 k] w fun e w' => e = TokE (tokO k o) ∧ Below w.heap.size w w' := by
 have CS := Lib.hid (fun W => start_n c W)
 have CD := Lib.hid (fun W => xdecimal_any c W)
 have T0 := Lib.hid (TB.start w)
 rw [hst] at CS
 have g1 : ((c : Int) == 92) = false := by rw [beq_eq_false_iff_ne]; omega
 have g2 : ((c : Int) == 34) = false := by rw [beq_eq_false_iff_ne]; omega
 have g3 : ((c : Int) == 39) = false := by rw [beq_eq_false_iff_ne]; omega
 clear hst h92 h34 h39
 have hd : dg10 c = false := by
  cases hd : dg10 c
  ·rfl
  ·rw [hd] at h; cases h
 rw [hd] at CD h
 by_cases h46 : c = 46
 ·have h2 : dg10 d = false := by
   rw [h46] at h
   simpa using h
  have CD2 := fun W => xdecimal_any d W
  rw [h2] at CD2
  have CD2 := Lib.hid CD2
  subst h46
  clear h hd g1 g2 g3 h2
  cases o with
  | none =>
   have CC := Lib.hid (show ∀ W, Cp 54 #[.string s, .int .i64 k] W fun e w' => e = .returned (.tuple #[.agg #[.int .i64 0, .string ⟨#[]⟩, .float .f64 0, .bool false, .bool false, .int .i64 0, .int .i64 0], .bool false]) ∧ Below W.heap.size W w' from CC.out)
   go_enter Tryz.func32, Tryz.ntmps32
   go_wp2_with fail
   refine (C1.out _).mono ?_
   rintro e w' ⟨rfl, n1, rfl⟩
   go_wp2_with fail
   refine (CS.out _).mono ?_
   rintro e w' ⟨rfl, rfl⟩
   go_wp2_with fail
   refine (CD.out _).mono ?_
   rintro e w' ⟨rfl, rfl⟩
   go_wp2_with fail
   refine (CU.out _).mono ?_
   rintro e w' ⟨rfl, n2, rfl⟩
   go_wp2_with fail
   refine (CD2.out _).mono ?_
   rintro e w' ⟨rfl, rfl⟩
   go_wp2_with fail
   refine (CC.out _).mono ?_
   rintro e w1 ⟨rfl, b1⟩
   have T1 := (T0.out.draw (n1 + n2)).step b1
   have HG := Lib.hid T1.bl
   have HB := Lib.hid T1.bw
   clear T1 b1
   go_wp2_with (first | (refine wpList_store_row rfl 24 _ _ rfl w.heap.size #[.int .i64 0, .string ⟨#[]⟩, .float .f64 0, .bool false, .bool false, .int .i64 0, .int .i64 0] rfl rfl 24 #[.int .i64 0, .string ⟨#[]⟩, .float .f64 0, .bool false, .bool false, .int .i64 0, .int .i64 0] HG.out (by first | kernel_rfl | rfl) rfl (by first | kernel_rfl | rfl) ?_))
   refine bodyPost_ret (results_cell_tmp rfl _ _ _ _ _ rfl (run_loadVar_row _ w.heap.size 24 24 _ (0, 0) _ (setRow_heap _ _ _ _ _ _ HG.out) Tryz.underlying24 rfl (by first | kernel_rfl | rfl))) rfl ⟨?_, below_setRowK HB.out (Nat.le_refl _) _⟩
   rfl
  | some p =>
   have CC := Lib.hid (show ∀ W, Cp 54 #[.string s, .int .i64 k] W fun e w' => e = .returned (.tuple #[.agg #[.int .i64 ((p.1 : Nat) : Int), .string ⟨(bL p.2.1).toArray⟩, .float .f64 p.2.2.1, .bool p.2.2.2.1, .bool false, .int .i64 0, .int .i64 ((k + p.2.2.2.2 : Nat) : Int)], .bool true]) ∧ Below W.heap.size W w' from CC.out)
   have HE : Hid (TokE (tokO k (some p)) = .returned (.tuple #[.agg #[.int .i64 ((p.1 : Nat) : Int), .string ⟨(bL p.2.1).toArray⟩, .float .f64 p.2.2.1, .bool p.2.2.2.1, .bool false, .int .i64 0, .int .i64 ((k + p.2.2.2.2 : Nat) : Int)], .bool true])) := Lib.hid rfl
   obtain ⟨kd, hkd⟩ : ∃ kd : Int, ((p.1 : Nat) : Int) = kd := ⟨_, rfl⟩
   obtain ⟨tx, htx⟩ : ∃ tx : ByteArray, (⟨(bL p.2.1).toArray⟩ : ByteArray) = tx := ⟨_, rfl⟩
   obtain ⟨xx, hxx⟩ : ∃ xx, p.2.2.1 = xx := ⟨_, rfl⟩
   obtain ⟨es, hes⟩ : ∃ es, p.2.2.2.1 = es := ⟨_, rfl⟩
   obtain ⟨fi, hfi⟩ : ∃ fi : Int, ((k + p.2.2.2.2 : Nat) : Int) = fi := ⟨_, rfl⟩
   rw [hkd, htx, hxx, hes, hfi] at CC HE
   clear hkd htx hxx hes hfi
   go_enter Tryz.func32, Tryz.ntmps32
   go_wp2_with fail
   refine (C1.out _).mono ?_
   rintro e w' ⟨rfl, n1, rfl⟩
   go_wp2_with fail
   refine (CS.out _).mono ?_
   rintro e w' ⟨rfl, rfl⟩
   go_wp2_with fail
   refine (CD.out _).mono ?_
   rintro e w' ⟨rfl, rfl⟩
   go_wp2_with fail
   refine (CU.out _).mono ?_
   rintro e w' ⟨rfl, n2, rfl⟩
   go_wp2_with fail
   refine (CD2.out _).mono ?_
   rintro e w' ⟨rfl, rfl⟩
   go_wp2_with fail
   refine (CC.out _).mono ?_
   rintro e w1 ⟨rfl, b1⟩
   have T1 := (T0.out.draw (n1 + n2)).step b1
   have HG := Lib.hid T1.bl
   have HB := Lib.hid T1.bw
   clear T1 b1
   go_wp2_with (first | (refine wpList_store_row rfl 24 _ _ rfl w.heap.size #[.int .i64 (kd : Int), .string tx, .float .f64 xx, .bool es, .bool false, .int .i64 0, .int .i64 fi] rfl rfl 24 #[.int .i64 0, .string ⟨#[]⟩, .float .f64 0, .bool false, .bool false, .int .i64 0, .int .i64 0] HG.out (by first | kernel_rfl | rfl) rfl (by first | kernel_rfl | rfl) ?_))
   refine bodyPost_ret (results_cell_tmp rfl _ _ _ _ _ rfl (run_loadVar_row _ w.heap.size 24 24 _ (0, 0) _ (setRow_heap _ _ _ _ _ _ HG.out) Tryz.underlying24 rfl (by first | kernel_rfl | rfl))) rfl ⟨?_, below_setRowK HB.out (Nat.le_refl _) _⟩
   exact HE.out.symm
 ·have g4 : ((c : Int) == 46) = false := by rw [beq_eq_false_iff_ne]; omega
  clear h hd h46 CU
  cases o with
  | none =>
   have CC := Lib.hid (show ∀ W, Cp 54 #[.string s, .int .i64 k] W fun e w' => e = .returned (.tuple #[.agg #[.int .i64 0, .string ⟨#[]⟩, .float .f64 0, .bool false, .bool false, .int .i64 0, .int .i64 0], .bool false]) ∧ Below W.heap.size W w' from CC.out)
   go_enter Tryz.func32, Tryz.ntmps32
   go_wp2_with fail
   refine (C1.out _).mono ?_
   rintro e w' ⟨rfl, n1, rfl⟩
   go_wp2_with fail
   refine (CS.out _).mono ?_
   rintro e w' ⟨rfl, rfl⟩
   go_wp2_with fail
   refine (CD.out _).mono ?_
   rintro e w' ⟨rfl, rfl⟩
   go_wp2_with fail
   refine (CC.out _).mono ?_
   rintro e w1 ⟨rfl, b1⟩
   have T1 := (T0.out.draw (n1)).step b1
   have HG := Lib.hid T1.bl
   have HB := Lib.hid T1.bw
   clear T1 b1
   go_wp2_with (first | (refine wpList_store_row rfl 24 _ _ rfl w.heap.size #[.int .i64 0, .string ⟨#[]⟩, .float .f64 0, .bool false, .bool false, .int .i64 0, .int .i64 0] rfl rfl 24 #[.int .i64 0, .string ⟨#[]⟩, .float .f64 0, .bool false, .bool false, .int .i64 0, .int .i64 0] HG.out (by first | kernel_rfl | rfl) rfl (by first | kernel_rfl | rfl) ?_))
   refine bodyPost_ret (results_cell_tmp rfl _ _ _ _ _ rfl (run_loadVar_row _ w.heap.size 24 24 _ (0, 0) _ (setRow_heap _ _ _ _ _ _ HG.out) Tryz.underlying24 rfl (by first | kernel_rfl | rfl))) rfl ⟨?_, below_setRowK HB.out (Nat.le_refl _) _⟩
   rfl
  | some p =>
   have CC := Lib.hid (show ∀ W, Cp 54 #[.string s, .int .i64 k] W fun e w' => e = .returned (.tuple #[.agg #[.int .i64 ((p.1 : Nat) : Int), .string ⟨(bL p.2.1).toArray⟩, .float .f64 p.2.2.1, .bool p.2.2.2.1, .bool false, .int .i64 0, .int .i64 ((k + p.2.2.2.2 : Nat) : Int)], .bool true]) ∧ Below W.heap.size W w' from CC.out)
   have HE : Hid (TokE (tokO k (some p)) = .returned (.tuple #[.agg #[.int .i64 ((p.1 : Nat) : Int), .string ⟨(bL p.2.1).toArray⟩, .float .f64 p.2.2.1, .bool p.2.2.2.1, .bool false, .int .i64 0, .int .i64 ((k + p.2.2.2.2 : Nat) : Int)], .bool true])) := Lib.hid rfl
   obtain ⟨kd, hkd⟩ : ∃ kd : Int, ((p.1 : Nat) : Int) = kd := ⟨_, rfl⟩
   obtain ⟨tx, htx⟩ : ∃ tx : ByteArray, (⟨(bL p.2.1).toArray⟩ : ByteArray) = tx := ⟨_, rfl⟩
   obtain ⟨xx, hxx⟩ : ∃ xx, p.2.2.1 = xx := ⟨_, rfl⟩
   obtain ⟨es, hes⟩ : ∃ es, p.2.2.2.1 = es := ⟨_, rfl⟩
   obtain ⟨fi, hfi⟩ : ∃ fi : Int, ((k + p.2.2.2.2 : Nat) : Int) = fi := ⟨_, rfl⟩
   rw [hkd, htx, hxx, hes, hfi] at CC HE
   clear hkd htx hxx hes hfi
   go_enter Tryz.func32, Tryz.ntmps32
   go_wp2_with fail
   refine (C1.out _).mono ?_
   rintro e w' ⟨rfl, n1, rfl⟩
   go_wp2_with fail
   refine (CS.out _).mono ?_
   rintro e w' ⟨rfl, rfl⟩
   go_wp2_with fail
   refine (CD.out _).mono ?_
   rintro e w' ⟨rfl, rfl⟩
   go_wp2_with fail
   refine (CC.out _).mono ?_
   rintro e w1 ⟨rfl, b1⟩
   have T1 := (T0.out.draw (n1)).step b1
   have HG := Lib.hid T1.bl
   have HB := Lib.hid T1.bw
   clear T1 b1
   go_wp2_with (first | (refine wpList_store_row rfl 24 _ _ rfl w.heap.size #[.int .i64 (kd : Int), .string tx, .float .f64 xx, .bool es, .bool false, .int .i64 0, .int .i64 fi] rfl rfl 24 #[.int .i64 0, .string ⟨#[]⟩, .float .f64 0, .bool false, .bool false, .int .i64 0, .int .i64 0] HG.out (by first | kernel_rfl | rfl) rfl (by first | kernel_rfl | rfl) ?_))
   refine bodyPost_ret (results_cell_tmp rfl _ _ _ _ _ rfl (run_loadVar_row _ w.heap.size 24 24 _ (0, 0) _ (setRow_heap _ _ _ _ _ _ HG.out) Tryz.underlying24 rfl (by first | kernel_rfl | rfl))) rfl ⟨?_, below_setRowK HB.out (Nat.le_refl _) _⟩
   exact HE.out.symm
set_option maxRecDepth 100000 in
set_option maxHeartbeats 4000000 in
theorem xread_end (s : ByteArray) (k : Nat) (w : World)
  (C1 : Hid (∀ W, Cp 48 #[.string s, .int .i64 k] W fun e w' => e = .returned (.tuple #[.int .u16 0, .bool false]) ∧ ∃ n, w' = W.drewN n)) :
  Cp 32 #[.string s, .int .i64 k] w fun e w' => e = TokE (tokO k (some (1, [], 0, false, 0))) ∧ Below w.heap.size w w' := by
 have T0 := Lib.hid (TB.start w)
 go_enter Tryz.func32, Tryz.ntmps32
 go_wp2_with fail
 refine (C1.out _).mono ?_
 rintro e w' ⟨rfl, n1, rfl⟩
 have T1 := T0.out.draw n1
 have HG := Lib.hid T1.bl
 have HB := Lib.hid T1.bw
 clear T1
 go_wp2_with (first | (refine wpList_store_row rfl 24 _ _ rfl w.heap.size #[.int .i64 1, .string ⟨#[]⟩, .float .f64 0, .bool false, .bool false, .int .i64 0, .int .i64 (k : Int)] rfl rfl 24 #[.int .i64 0, .string ⟨#[]⟩, .float .f64 0, .bool false, .bool false, .int .i64 0, .int .i64 0] HG.out (by first | kernel_rfl | rfl) rfl (by first | kernel_rfl | rfl) ?_))
 refine bodyPost_ret (results_cell_tmp rfl _ _ _ _ _ rfl (run_loadVar_row _ w.heap.size 24 24 _ (0, 0) _ (setRow_heap _ _ _ _ _ _ HG.out) Tryz.underlying24 rfl (by first | kernel_rfl | rfl))) rfl ⟨?_, below_setRowK HB.out (Nat.le_refl _) _⟩
 rfl
theorem xread_any (s : ByteArray) (k : Nat) (w : World) (hs : s.size ≤ 4398046511104) (hk : k ≤ ln s) :
  Cp 32 #[.string s, .int .i64 k] w fun e w' => e = TokE (tokO k (readL ((us s).drop k))) ∧ Below w.heap.size w w' := by
 have hs63 : s.size ≤ maxLen := by unfold maxLen; omega
 have hln := ln_le s
 have hkl : (k : Int) ≤ 70368744177664 := by omega
 have CT := fun W => unitT_any s k W hs63
 rcases Nat.lt_or_ge k (ln s) with hlt | hge
 ·obtain ⟨c, h1, h2⟩ := drop_step (L := us s) (k := k) (by rw [us_length]; exact hlt)
  have CU : ∀ W, Cp 31 #[.string s, .int .i64 ((k : Int) + 1)] W fun e w' => e = .returned (.int .u16 ((hd0 ((us s).drop (k + 1)) : Nat) : Int)) ∧ ∃ n, w' = W.drewN n := fun W => xunit_any s (k + 1) W hs63
  have CN := fun W => xname_any s k W hs hk
  have CQ := fun W h => xquoted_any s k W (by omega) hlt h
  have CM := fun W => xnumber_any s k W (by omega) hk
  have CK := fun W => xmark_any s k W (by omega) hk
  rw [h2] at CT CQ
  rw [h1] at CT CM CK ⊢
  have C1 := Lib.hid (show ∀ W, Cp 48 #[.string s, .int .i64 k] W fun e w' => e = .returned (.tuple #[.int .u16 (c : Nat), .bool true]) ∧ ∃ n, w' = W.drewN n from CT)
  rw [readL]
  by_cases e1 : (stN c || c == 92) = true
  ·rw [if_pos e1]
   refine xread_name s k c w _ hkl e1 C1 (Lib.hid fun W => ?_)
   have e : namV (namR k [] false s) = tokO k ((namL (c :: (us s).drop (k + 1))).map fun p => (if resB p.1 = true then 3 else 2, p.1, 0, p.2.1, p.2.2)) := by
    unfold namV namR tokO namL namG
    rw [h1, show (([] : List Nat).length == 0) = true from rfl]
    cases namF ((c :: (us s).drop (k + 1)).length + 1) true (c :: (us s).drop (k + 1)) with
    | none => rfl
    | some p => simp
   rw [← e]
   exact CN W
  ·rw [if_neg e1]
   have e1' : (stN c || c == 92) = false := by simpa using e1
   obtain ⟨hst, h92⟩ : stN c = false ∧ c ≠ 92 := by simpa using e1'
   by_cases e2 : (c == 34 || c == 39) = true
   ·rw [if_pos e2]
    have e3 : c = 34 ∨ c = 39 := by simpa using e2
    refine xread_quoted s k c w _ hkl e3 C1 (Lib.hid fun W => ?_)
    have e : quoV k (strL c ((us s).drop (k + 1))) = tokO k ((strL c ((us s).drop (k + 1))).map fun p => (6, p.1, 0, false, 1 + p.2)) := by
     unfold quoV tokO
     cases strL c ((us s).drop (k + 1)) with
     | none => rfl
     | some p => simp [Nat.add_assoc]
    rw [← e]
    exact CQ W e3
   ·rw [if_neg e2]
    obtain ⟨h34, h39⟩ : c ≠ 34 ∧ c ≠ 39 := by simpa using e2
    by_cases e4 : (dg10 c || (c == 46 && dg10 (hd0 ((us s).drop (k + 1))))) = true
    ·rw [if_pos e4]
     refine xread_number s k c w _ hkl hst h92 h34 h39 _ (Lib.hid CU) e4 C1 (Lib.hid fun W => ?_)
     have e : nmV k (c :: (us s).drop (k + 1)) = tokO k ((numL (c :: (us s).drop (k + 1))).map fun p => (5, [], p.1, false, p.2)) := by
      obtain ⟨n1, n2⟩ := num_same (c :: (us s).drop (k + 1))
      unfold nmV tokO numL
      rw [n1]
      by_cases n3 : numO (c :: (us s).drop (k + 1)) (numR (c :: (us s).drop (k + 1))) = true
      ·rw [if_pos n3, if_pos n3, n2 n3]
       rfl
      ·rw [if_neg n3, if_neg n3]
       rfl
     rw [← e]
     exact CM W
    ·rw [if_neg e4]
     refine xread_mark s k c w _ hkl hst h92 h34 h39 _ (Lib.hid CU) (by simpa using e4) C1 (Lib.hid fun W => ?_)
     have e : mkV k (markL (c :: (us s).drop (k + 1))) = tokO k ((markL (c :: (us s).drop (k + 1))).map fun t => (4, t, 0, false, t.length)) := by
      unfold mkV tokO
      cases markL (c :: (us s).drop (k + 1)) with
      | none => rfl
      | some p => rfl
     rw [← e]
     exact CK W
 ·have hd : (us s).drop k = [] := List.drop_eq_nil_iff.2 (by rw [us_length]; exact hge)
  rw [hd] at CT ⊢
  exact xread_end s k w (Lib.hid CT)

end Go.Proofs.YtjmplgbhjpldbaaGreatDoor
namespace Go.Proofs.YtjmplgbhjpldbaaGreatDoor
open Go.RowKit
def skE (k : Nat) (b : Bool) (p : Nat × Bool × Bool) : Ending := .returned (.tuple #[.int .i64 ((k + p.1 : Nat) : Int), .bool (b || p.2.1), .bool p.2.2])
set_option maxRecDepth 100000 in
set_option maxHeartbeats 1000000 in
theorem xskip_any (s : ByteArray) (k : Nat) (w : World) (hs : s.size ≤ 140737488355328) (hk : k ≤ ln s) :
    Cp 30 #[.string s, .int .i64 k] w fun e w' => e = skE k false (skipL ((us s).drop k)) ∧ ∃ n, w' = w.drewN n := by
  have C1 := Lib.hid (fun (j : Nat) (h : j ≤ ln s) W => xgap_any s j W hs h)
  have hln := ln_le s
  have hl : ((ln s : Nat) : Int) ≤ 140737488355328 := by omega
  obtain ⟨R, hR⟩ : ∃ R, skE k false (skipL ((us s).drop k)) = R := ⟨_, rfl⟩
  rw [hR]
  have HR := Lib.hid hR
  have HK := Lib.hid hk
  clear hs hln hR hk
  go_enter Tryz.func30, Tryz.ntmps30
  go_wp2
  go_loopw [1, 7] (fun v nl wr => ∃ (j : Nat) (b : Bool), v = .int .i64 j ∧ nl = .bool b ∧ j ≤ ln s ∧ Hid (R = skE j b (skipL ((us s).drop j))) ∧ ∃ n, wr = w.drewN n) (fun v _ _ => ln s - (intOf v).toNat)
  case atStart => exact ⟨k, false, rfl, rfl, HK.out, Lib.hid HR.out.symm, 0, rfl⟩
  case round =>
    obtain ⟨j, b, rfl, rfl, hj, HJ, n0, rfl⟩ := hrel
    have C2 := Lib.hid (C1.out j hj)
    have hs1 := skip_next ((us s).drop j)
    cases hg : gapL ((us s).drop j) with
    | none =>
      rw [hg] at C2 hs1
      have HJ2 : Hid (R = skE j b (0, false, false)) := Lib.hid (by rw [HJ.out, hs1])
      clear hg hs1 HJ
      go_wp2_with fail
      refine (C2.out _).mono ?_
      rintro e w' ⟨rfl, n1, rfl⟩
      simp only [Option.map_none, comE]
      go_wp2
      go_ret3
      exact ⟨by rw [HJ2.out]; simp [skE], n0 + n1, by first | rfl | simp⟩
    | some p =>
      obtain ⟨n, g⟩ := p
      cases n with
      | zero =>
        rw [hg] at C2 hs1
        have HJ2 : Hid (R = skE j b (0, false, true)) := Lib.hid (by rw [HJ.out, hs1])
        clear hg hs1 HJ
        go_wp2_with fail
        refine (C2.out _).mono ?_
        rintro e w' ⟨rfl, n1, rfl⟩
        simp only [Option.map_some, comE, comP, Bool.false_or, Nat.add_zero]
        go_wp2
        go_ret3
        exact ⟨by rw [HJ2.out]; simp [skE], n0 + n1, by first | rfl | simp⟩
      | succ n =>
        have hle := gap_le hg
        rw [List.length_drop, us_length] at hle
        rw [hg] at C2 hs1
        have HJ2 : Hid (R = skE (j + (n + 1)) (b || g) (skipL ((us s).drop (j + (n + 1))))) := Lib.hid (by
          rw [HJ.out, hs1]
          simp only [List.drop_drop]
          unfold skE
          simp only [Bool.or_assoc, Nat.add_assoc])
        obtain ⟨m, hm⟩ : ∃ m, j + (n + 1) = m := ⟨_, rfl⟩
        have hm1 : j < m := by omega
        have hm2 : m ≤ ln s := by omega
        have hm3 : ¬ ((m : Int) = (j : Int)) := by omega
        rw [hm] at HJ2
        simp only [Option.map_some, comE, comP, Bool.false_or] at C2
        rw [hm] at C2
        clear hg hs1 HJ hle hm
        cases b
        all_goals
          go_wp2_with fail
          refine (C2.out _).mono ?_
          rintro e w' ⟨rfl, n1, rfl⟩
          go_wp2
          go_roundw
          case rel => exact ⟨m, _, rfl, rfl, hm2, HJ2, n0 + n1, by first | rfl | simp⟩
          case measure => simp [intOf]; omega


end Go.Proofs.YtjmplgbhjpldbaaGreatDoor
namespace Go.Proofs.YtjmplgbhjpldbaaGreatDoor
open Go.RowKit
theorem results_cell_tmp2 {fn : Func} {p t u : Tmp} {ty : TypeId} (h : fn.results = #[.cell p ty, .tmp t, .tmp u]) (tmps : Array Value) (P : Program) (w : World) (a : Addr) (v : Value) (ha : tmps.getD p undef = .pointer (some a)) (hl : (loadVar ty a).run P w = .ok v w) :
  (results fn tmps).run P w = .ok (.tuple #[v, tmps.getD t undef, tmps.getD u undef]) w := by
 simp only [results, h]
 simp [-Array.getD_eq_getD_getElem?, ha, asAddr, hl]
def tkT (t : Tok) : Value := tkV t.kind ⟨(bL t.text).toArray⟩ t.num t.esc t.nl t.pos t.fin
def NxE : Nat × Option Tok → Ending
 | (_, some t) => .returned (.tuple #[tkT t, .int .i64 0, .int .i64 0])
 | (p, none) => .returned (.tuple #[.agg #[.int .i64 0, .string ⟨#[]⟩, .float .f64 0, .bool false, .bool false, .int .i64 0, .int .i64 0], .int .i64 (p : Nat), .int .i64 60])
def nxtO (op : Bool) (p : Nat) (l : List Nat) : Nat × Option Tok :=
 if ((skipL l).2.2 = false) ∨ (op = true ∧ hd0 (l.drop (skipL l).1) = 47) then (p + (skipL l).1, none)
 else match readL (l.drop (skipL l).1) with
  | none => (p + (skipL l).1, none)
  | some (k, t, x, e, n) => (0, some ⟨k, t, x, e, (skipL l).2.1, p + (skipL l).1, p + (skipL l).1 + n⟩)
theorem nxtO_false (p : Nat) (l : List Nat) : nxtO false p l = nxtL p l := by
 unfold nxtO nxtL
 simp only [Bool.false_eq_true, false_and, or_false]
 rfl
set_option maxRecDepth 100000 in
set_option maxHeartbeats 4000000 in
theorem xNext_any (s : ByteArray) (k : Nat) (op : Bool) (w : World) (hs : s.size ≤ 4398046511104) (hk : k ≤ ln s) :
  Cp 9 #[.string s, .int .i64 k, .bool op] w fun e w' => e = NxE (nxtO op k ((us s).drop k)) ∧ Below w.heap.size w w' := by
 have hs63 : s.size ≤ maxLen := by unfold maxLen; omega
 have hln := ln_le s
 have CL := Lib.hid (fun W => len_any s W hs63)
 have CK := fun W => xskip_any s k W (by omega) hk
 have hd0 : (k : Int) ≤ (ln s : Nat) := by omega
 have hgt : decide (ln s < k) = false := by simpa using hk
 rcases hsk : skipL ((us s).drop k) with ⟨n, nl, ok⟩
 have hnl : n ≤ ((us s).drop k).length := by have := skipL_le ((us s).drop k); rw [hsk] at this; exact this
 rw [List.length_drop, us_length] at hnl
 rw [hsk] at CK
 obtain ⟨p, hp⟩ : ∃ p, k + n = p := ⟨_, rfl⟩
 have hpl : p ≤ ln s := by omega
 have CK := Lib.hid (show ∀ W, Cp 30 #[.string s, .int .i64 k] W fun e w' => e = .returned (.tuple #[.int .i64 (p : Nat), .bool nl, .bool ok]) ∧ ∃ n, w' = W.drewN n from fun W => (CK W).mono fun e w' ⟨he, hw⟩ => ⟨by rw [he, ← hp]; simp [skE], hw⟩)
 have CU := fun W => xunit_any s p W hs63
 have CR := fun W => xread_any s p W hs hpl
 have e1 : ((us s).drop k).drop n = (us s).drop p := by rw [List.drop_drop, hp]
 have hR : nxtO op k ((us s).drop k) = if (ok = false) ∨ (op = true ∧ Go.Proofs.YtjmplgbhjpldbaaGreatDoor.hd0 ((us s).drop p) = 47) then (p, none)
   else match readL ((us s).drop p) with
    | none => (p, none)
    | some (k, t, x, e, n) => (0, some ⟨k, t, x, e, nl, p, p + n⟩) := by
  unfold nxtO
  rw [hsk]
  simp only [e1, hp]
 rw [hR]
 obtain ⟨c, hc⟩ : ∃ c, Go.Proofs.YtjmplgbhjpldbaaGreatDoor.hd0 ((us s).drop p) = c := ⟨_, rfl⟩
 rw [hc] at CU ⊢
 have CU := Lib.hid CU
 have T0 := Lib.hid (TB.start w)
 obtain ⟨o, ho⟩ : ∃ o, readL ((us s).drop p) = o := ⟨_, rfl⟩
 rw [ho] at CR ⊢
 clear hs63 hln hs hk hsk hnl hp hpl e1 hR hc ho hd0
 cases ok
 ·rw [if_pos (.inl rfl)]
  clear CU CR
  go_enter Tryz.func9, Tryz.ntmps9
  go_wp2_with fail
  refine (CL.out _).mono ?_
  rintro e w' ⟨rfl, rfl⟩
  go_wp2_with fail
  refine (CK.out _).mono ?_
  rintro e w' ⟨rfl, n1, rfl⟩
  have T1 := T0.out.draw n1
  have HG := Lib.hid T1.bl
  have HB := Lib.hid T1.bw
  clear T1
  go_wp2_with (first | (refine wpList_store_row rfl 24 _ _ rfl w.heap.size #[.int .i64 0, .string ⟨#[]⟩, .float .f64 0, .bool false, .bool false, .int .i64 0, .int .i64 0] rfl rfl 24 #[.int .i64 0, .string ⟨#[]⟩, .float .f64 0, .bool false, .bool false, .int .i64 0, .int .i64 0] HG.out (by first | kernel_rfl | rfl) rfl (by first | kernel_rfl | rfl) ?_))
  refine bodyPost_ret (results_cell_tmp2 rfl _ _ _ _ _ rfl (run_loadVar_row _ w.heap.size 24 24 _ (0, 0) _ (setRow_heap _ _ _ _ _ _ HG.out) Tryz.underlying24 rfl (by first | kernel_rfl | rfl))) rfl ⟨?_, below_setRowK HB.out (Nat.le_refl _) _⟩
  rfl
 ·by_cases h47 : op = true ∧ c = 47
  ·rw [if_pos (.inr h47)]
   obtain ⟨rfl, rfl⟩ := h47
   clear CR
   go_enter Tryz.func9, Tryz.ntmps9
   go_wp2_with fail
   refine (CL.out _).mono ?_
   rintro e w' ⟨rfl, rfl⟩
   go_wp2_with fail
   refine (CK.out _).mono ?_
   rintro e w' ⟨rfl, n1, rfl⟩
   go_wp2_with fail
   refine (CU.out _).mono ?_
   rintro e w' ⟨rfl, n2, rfl⟩
   have T1 := T0.out.draw (n1 + n2)
   have HG := Lib.hid T1.bl
   have HB := Lib.hid T1.bw
   clear T1
   go_wp2_with (first | (refine wpList_store_row rfl 24 _ _ rfl w.heap.size #[.int .i64 0, .string ⟨#[]⟩, .float .f64 0, .bool false, .bool false, .int .i64 0, .int .i64 0] rfl rfl 24 #[.int .i64 0, .string ⟨#[]⟩, .float .f64 0, .bool false, .bool false, .int .i64 0, .int .i64 0] HG.out (by first | kernel_rfl | rfl) rfl (by first | kernel_rfl | rfl) ?_))
   refine bodyPost_ret (results_cell_tmp2 rfl _ _ _ _ _ rfl (run_loadVar_row _ w.heap.size 24 24 _ (0, 0) _ (setRow_heap _ _ _ _ _ _ HG.out) Tryz.underlying24 rfl (by first | kernel_rfl | rfl))) rfl ⟨?_, below_setRowK HB.out (Nat.le_refl _) _⟩
   rfl
  ·rw [if_neg (by simpa using h47)]
   cases o with
   | none =>
    have CR := Lib.hid (show ∀ W, Cp 32 #[.string s, .int .i64 (p : Nat)] W fun e w' => e = .returned (.tuple #[.agg #[.int .i64 0, .string ⟨#[]⟩, .float .f64 0, .bool false, .bool false, .int .i64 0, .int .i64 0], .bool false]) ∧ Below W.heap.size W w' from CR)
    cases op
    ·clear CU h47
     go_enter Tryz.func9, Tryz.ntmps9
     go_wp2_with fail
     refine (CL.out _).mono ?_
     rintro e w' ⟨rfl, rfl⟩
     go_wp2_with fail
     refine (CK.out _).mono ?_
     rintro e w' ⟨rfl, n1, rfl⟩
     go_wp2_with fail
     refine (CR.out _).mono ?_
     rintro e w1 ⟨rfl, b1⟩
     have T1 := ((T0.out.draw (n1)).step b1).step ((Below.refl _ _).alloc (Nat.le_refl _) (.cells #[.int .i64 0, .string ⟨#[]⟩, .float .f64 0, .bool false, .bool false, .int .i64 0, .int .i64 0] 24))
     have HG := Lib.hid T1.bl
     have HB := Lib.hid T1.bw
     clear T1 b1
     go_wp2_with (first | (refine wpList_store_row rfl 24 _ _ rfl w1.heap.size #[.int .i64 0, .string ⟨#[]⟩, .float .f64 0, .bool false, .bool false, .int .i64 0, .int .i64 0] rfl rfl 24 #[.int .i64 0, .string ⟨#[]⟩, .float .f64 0, .bool false, .bool false, .int .i64 0, .int .i64 0] (heap_alloc_last w1 _) (by first | kernel_rfl | rfl) rfl (by first | kernel_rfl | rfl) ?_; rw [World.setRow_alloc_new]) | (refine wpList_store_row rfl 24 _ _ rfl w.heap.size #[.int .i64 0, .string ⟨#[]⟩, .float .f64 0, .bool false, .bool false, .int .i64 0, .int .i64 0] rfl rfl 24 #[.int .i64 0, .string ⟨#[]⟩, .float .f64 0, .bool false, .bool false, .int .i64 0, .int .i64 0] HG.out (by first | kernel_rfl | rfl) rfl (by first | kernel_rfl | rfl) ?_))
     refine bodyPost_ret (results_cell_tmp2 rfl _ _ _ _ _ rfl (run_loadVar_row _ w.heap.size 24 24 _ (0, 0) _ (setRow_heap _ _ _ _ _ _ HG.out) Tryz.underlying24 rfl (by first | kernel_rfl | rfl))) rfl ⟨?_, below_setRowK HB.out (Nat.le_refl _) _⟩
     rfl
    ·have g1 : ((c : Int) == 47) = false := by rw [beq_eq_false_iff_ne]; intro h; exact h47 ⟨rfl, by omega⟩
     clear h47
     go_enter Tryz.func9, Tryz.ntmps9
     go_wp2_with fail
     refine (CL.out _).mono ?_
     rintro e w' ⟨rfl, rfl⟩
     go_wp2_with fail
     refine (CK.out _).mono ?_
     rintro e w' ⟨rfl, n1, rfl⟩
     go_wp2_with fail
     refine (CU.out _).mono ?_
     rintro e w' ⟨rfl, n2, rfl⟩
     go_wp2_with fail
     refine (CR.out _).mono ?_
     rintro e w1 ⟨rfl, b1⟩
     have T1 := ((T0.out.draw (n1 + n2)).step b1).step ((Below.refl _ _).alloc (Nat.le_refl _) (.cells #[.int .i64 0, .string ⟨#[]⟩, .float .f64 0, .bool false, .bool false, .int .i64 0, .int .i64 0] 24))
     have HG := Lib.hid T1.bl
     have HB := Lib.hid T1.bw
     clear T1 b1
     go_wp2_with (first | (refine wpList_store_row rfl 24 _ _ rfl w1.heap.size #[.int .i64 0, .string ⟨#[]⟩, .float .f64 0, .bool false, .bool false, .int .i64 0, .int .i64 0] rfl rfl 24 #[.int .i64 0, .string ⟨#[]⟩, .float .f64 0, .bool false, .bool false, .int .i64 0, .int .i64 0] (heap_alloc_last w1 _) (by first | kernel_rfl | rfl) rfl (by first | kernel_rfl | rfl) ?_; rw [World.setRow_alloc_new]) | (refine wpList_store_row rfl 24 _ _ rfl w.heap.size #[.int .i64 0, .string ⟨#[]⟩, .float .f64 0, .bool false, .bool false, .int .i64 0, .int .i64 0] rfl rfl 24 #[.int .i64 0, .string ⟨#[]⟩, .float .f64 0, .bool false, .bool false, .int .i64 0, .int .i64 0] HG.out (by first | kernel_rfl | rfl) rfl (by first | kernel_rfl | rfl) ?_))
     refine bodyPost_ret (results_cell_tmp2 rfl _ _ _ _ _ rfl (run_loadVar_row _ w.heap.size 24 24 _ (0, 0) _ (setRow_heap _ _ _ _ _ _ HG.out) Tryz.underlying24 rfl (by first | kernel_rfl | rfl))) rfl ⟨?_, below_setRowK HB.out (Nat.le_refl _) _⟩
     rfl
   | some q =>
    obtain ⟨kd0, t0, xx, es, n0⟩ := q
    have CR := Lib.hid (show ∀ W, Cp 32 #[.string s, .int .i64 (p : Nat)] W fun e w' => e = .returned (.tuple #[.agg #[.int .i64 ((kd0 : Nat) : Int), .string ⟨(bL t0).toArray⟩, .float .f64 xx, .bool es, .bool false, .int .i64 0, .int .i64 ((p + n0 : Nat) : Int)], .bool true]) ∧ Below W.heap.size W w' from CR)
    have HE : Hid (NxE (0, some ⟨kd0, t0, xx, es, nl, p, p + n0⟩) = .returned (.tuple #[.agg #[.int .i64 ((kd0 : Nat) : Int), .string ⟨(bL t0).toArray⟩, .float .f64 xx, .bool es, .bool nl, .int .i64 (p : Nat), .int .i64 ((p + n0 : Nat) : Int)], .int .i64 0, .int .i64 0])) := Lib.hid rfl
    obtain ⟨kd, hkd⟩ : ∃ kd : Int, ((kd0 : Nat) : Int) = kd := ⟨_, rfl⟩
    obtain ⟨tx, htx⟩ : ∃ tx : ByteArray, (⟨(bL t0).toArray⟩ : ByteArray) = tx := ⟨_, rfl⟩
    obtain ⟨fi, hfi⟩ : ∃ fi : Int, ((p + n0 : Nat) : Int) = fi := ⟨_, rfl⟩
    rw [hkd, htx, hfi] at CR HE
    clear hkd htx hfi
    cases op
    ·clear CU h47
     go_enter Tryz.func9, Tryz.ntmps9
     go_wp2_with fail
     refine (CL.out _).mono ?_
     rintro e w' ⟨rfl, rfl⟩
     go_wp2_with fail
     refine (CK.out _).mono ?_
     rintro e w' ⟨rfl, n1, rfl⟩
     go_wp2_with fail
     refine (CR.out _).mono ?_
     rintro e w1 ⟨rfl, b1⟩
     have T1 := ((T0.out.draw (n1)).step b1).step ((Below.refl _ _).alloc (Nat.le_refl _) (.cells #[.int .i64 kd, .string tx, .float .f64 xx, .bool es, .bool nl, .int .i64 (p : Nat), .int .i64 fi] 24))
     have HG := Lib.hid T1.bl
     have HB := Lib.hid T1.bw
     clear T1 b1
     go_wp2_with (first | (refine wpList_store_row rfl 24 _ _ rfl w1.heap.size #[.int .i64 kd, .string tx, .float .f64 xx, .bool es, .bool false, .int .i64 0, .int .i64 fi] rfl rfl 24 #[.int .i64 0, .string ⟨#[]⟩, .float .f64 0, .bool false, .bool false, .int .i64 0, .int .i64 0] (heap_alloc_last w1 _) (by first | kernel_rfl | rfl) rfl (by first | kernel_rfl | rfl) ?_; rw [World.setRow_alloc_new]) | (refine wpList_store_row rfl 24 _ _ rfl w.heap.size #[.int .i64 kd, .string tx, .float .f64 xx, .bool es, .bool nl, .int .i64 (p : Nat), .int .i64 fi] rfl rfl 24 #[.int .i64 0, .string ⟨#[]⟩, .float .f64 0, .bool false, .bool false, .int .i64 0, .int .i64 0] HG.out (by first | kernel_rfl | rfl) rfl (by first | kernel_rfl | rfl) ?_))
     refine bodyPost_ret (results_cell_tmp2 rfl _ _ _ _ _ rfl (run_loadVar_row _ w.heap.size 24 24 _ (0, 0) _ (setRow_heap _ _ _ _ _ _ HG.out) Tryz.underlying24 rfl (by first | kernel_rfl | rfl))) rfl ⟨?_, below_setRowK HB.out (Nat.le_refl _) _⟩
     exact HE.out.symm
    ·have g1 : ((c : Int) == 47) = false := by rw [beq_eq_false_iff_ne]; intro h; exact h47 ⟨rfl, by omega⟩
     clear h47
     go_enter Tryz.func9, Tryz.ntmps9
     go_wp2_with fail
     refine (CL.out _).mono ?_
     rintro e w' ⟨rfl, rfl⟩
     go_wp2_with fail
     refine (CK.out _).mono ?_
     rintro e w' ⟨rfl, n1, rfl⟩
     go_wp2_with fail
     refine (CU.out _).mono ?_
     rintro e w' ⟨rfl, n2, rfl⟩
     go_wp2_with fail
     refine (CR.out _).mono ?_
     rintro e w1 ⟨rfl, b1⟩
     have T1 := ((T0.out.draw (n1 + n2)).step b1).step ((Below.refl _ _).alloc (Nat.le_refl _) (.cells #[.int .i64 kd, .string tx, .float .f64 xx, .bool es, .bool nl, .int .i64 (p : Nat), .int .i64 fi] 24))
     have HG := Lib.hid T1.bl
     have HB := Lib.hid T1.bw
     clear T1 b1
     go_wp2_with (first | (refine wpList_store_row rfl 24 _ _ rfl w1.heap.size #[.int .i64 kd, .string tx, .float .f64 xx, .bool es, .bool false, .int .i64 0, .int .i64 fi] rfl rfl 24 #[.int .i64 0, .string ⟨#[]⟩, .float .f64 0, .bool false, .bool false, .int .i64 0, .int .i64 0] (heap_alloc_last w1 _) (by first | kernel_rfl | rfl) rfl (by first | kernel_rfl | rfl) ?_; rw [World.setRow_alloc_new]) | (refine wpList_store_row rfl 24 _ _ rfl w.heap.size #[.int .i64 kd, .string tx, .float .f64 xx, .bool es, .bool nl, .int .i64 (p : Nat), .int .i64 fi] rfl rfl 24 #[.int .i64 0, .string ⟨#[]⟩, .float .f64 0, .bool false, .bool false, .int .i64 0, .int .i64 0] HG.out (by first | kernel_rfl | rfl) rfl (by first | kernel_rfl | rfl) ?_))
     refine bodyPost_ret (results_cell_tmp2 rfl _ _ _ _ _ rfl (run_loadVar_row _ w.heap.size 24 24 _ (0, 0) _ (setRow_heap _ _ _ _ _ _ HG.out) Tryz.underlying24 rfl (by first | kernel_rfl | rfl))) rfl ⟨?_, below_setRowK HB.out (Nat.le_refl _) _⟩
     exact HE.out.symm

end Go.Proofs.YtjmplgbhjpldbaaGreatDoor
namespace Go.Proofs.YtjmplgbhjpldbaaGreatDoor
open Go.RowKit
theorem info_tok : (Tryz.prog.info? 24).map (fun i => (i.zero, i.size, i.bytes)) = some (some (.agg #[.int .i64 0, .string ⟨#[]⟩, .float .f64 0, .bool false, .bool false, .int .i64 0, .int .i64 0]), 7, 56) := by kernel_rfl
def tkC (t : Tok) : List Value := [.int .i64 (t.kind : Int), .string ⟨(bL t.text).toArray⟩, .float .f64 t.num, .bool t.esc, .bool t.nl, .int .i64 (t.pos : Int), .int .i64 (t.fin : Int)]
def OwnT (B : Nat) (ts : List Tok) (v : Value) (w : World) : Prop := w.ownsRow B 24 7 v ts.length (ts.flatMap tkC)
theorem OwnT.nil (B : Nat) (w : World) : OwnT B [] (.slice none 0 0) w := World.ownsRow_nil _ _ _ _
def AllP (B : Nat) (r : Nat × Option (List Tok)) (w : World) (e : Ending) (w' : World) : Prop :=
 (match r with
  | (p, none) => e = .returned (.tuple #[.slice none 0 0, .int .i64 (p : Int), .int .i64 60])
  | (_, some ts) => ∃ v, e = .returned (.tuple #[v, .int .i64 0, .int .i64 0]) ∧ OwnT B ts v w') ∧ Below B w w'
theorem OwnT.below {B : Nat} {ts : List Tok} {v : Value} {w w' : World} (h : OwnT B ts v w) (hb : Below w.heap.size w w') : OwnT B ts v w' := by
 refine h.kept (row := none) ⟨hb.os, hb.tape, hb.output, hb.size, fun k hk _ => hb.block k hk⟩ ?_
 cases v.ownBlock <;> simp
theorem nxt_lt {p q : Nat} {l : List Nat} {t : Tok} (h : nxtL p l = (q, some t)) (hk : t.kind ≠ 1) : p < t.fin := by
 unfold nxtL at h
 split at h
 ·cases h
 ·split at h
  ·cases h
  ·rename_i k tx x e n hr
   cases h
   obtain ⟨h1, h2, h3, _⟩ := read_len hr
   have := h3 (fun e => hk (h2.2 e))
   show p < p + (skipL l).1 + n
   omega
theorem tok_cells (w1 : World) (kd po fi : Int) (tx : ByteArray) (xx : Nat) (es nl : Bool) : ∀ j u, ([.int .i64 kd, .string tx, .float .f64 xx, .bool es, .bool nl, .int .i64 po, .int .i64 fi] : List Value)[j]? = some u → ((w1.alloc (.cells #[.int .i64 kd, .string tx, .float .f64 xx, .bool es, .bool nl, .int .i64 po, .int .i64 fi] 24)).alloc (.cells #[.int .i64 kd, .string tx, .float .f64 xx, .bool es, .bool nl, .int .i64 po, .int .i64 fi] 24)).cell? (Addr.add ⟨w1.heap.size + 1, 0, none⟩ j) = some u := by
 intro j u h
 obtain ⟨V, hV⟩ : ∃ V, w1.alloc (.cells #[.int .i64 kd, .string tx, .float .f64 xx, .bool es, .bool nl, .int .i64 po, .int .i64 fi] 24) = V := ⟨_, rfl⟩
 have hs : w1.heap.size + 1 = V.heap.size := by rw [← hV]; simp
 rw [hV, hs]
 have h2 := heap_alloc_last V (.cells #[.int .i64 kd, .string tx, .float .f64 xx, .bool es, .bool nl, .int .i64 po, .int .i64 fi] 24)
 have e : Addr.add ⟨V.heap.size, 0, none⟩ j = ⟨V.heap.size, j, none⟩ := by
  unfold Addr.add
  by_cases hj : j = 0 <;> simp [hj]
 rw [e]
 unfold World.cell?
 simp only []
 rw [h2]
 simpa using h
theorem tok_first (w1 : World) (kd po fi : Int) (tx : ByteArray) (xx : Nat) (es nl : Bool) : ((w1.alloc (.cells #[.int .i64 kd, .string tx, .float .f64 xx, .bool es, .bool nl, .int .i64 po, .int .i64 fi] 24)).alloc (.cells #[.int .i64 kd, .string tx, .float .f64 xx, .bool es, .bool nl, .int .i64 po, .int .i64 fi] 24)).heap[w1.heap.size]? = some (.cells #[.int .i64 kd, .string tx, .float .f64 xx, .bool es, .bool nl, .int .i64 po, .int .i64 fi] 24 (0, 0)) := by
 obtain ⟨V, hV⟩ : ∃ V, w1.alloc (.cells #[.int .i64 kd, .string tx, .float .f64 xx, .bool es, .bool nl, .int .i64 po, .int .i64 fi] 24) = V := ⟨_, rfl⟩
 have hs : w1.heap.size + 1 = V.heap.size := by rw [← hV]; simp
 have h2 : V.heap[w1.heap.size]? = some (.cells #[.int .i64 kd, .string tx, .float .f64 xx, .bool es, .bool nl, .int .i64 po, .int .i64 fi] 24 (0, 0)) := by rw [← hV]; exact heap_alloc_last w1 _
 rw [hV]
 exact (((Below.refl V.heap.size V).alloc (Nat.le_refl _) _).block _ (by omega)).trans h2
def prepT (ts : List Tok) : Nat × Option (List Tok) → Nat × Option (List Tok)
 | (q, none) => (q, none)
 | (_, some us) => (0, some (ts ++ us))
set_option maxRecDepth 100000 in
set_option maxHeartbeats 4000000 in
theorem xAll_any (s : ByteArray) (w : World) (hs : s.size ≤ 4398046511104) :
    Cp 13 #[.string s] w (AllP w.heap.size (allL (us s)) w) := by
  obtain ⟨i0, hi, hz0, hz1, hz2⟩ := info_parts info_tok
  have hln := ln_le s
  have CN := Lib.hid (fun (j : Nat) (hj : j ≤ ln s) W => xNext_any s j false W hs hj)
  obtain ⟨R, hR⟩ : ∃ R, allL (us s) = R := ⟨_, rfl⟩
  have hR0 : prepT [] (allG 0 ((us s).drop 0)) = R := by
    rw [← hR, List.drop_zero]
    show prepT [] (allL (us s)) = _
    rcases h : allL (us s) with ⟨q, _ | ts⟩
    · rfl
    · have h2 : allG 0 (us s) = (q, some ts) := h
      rw [all_next] at h2
      have : q = 0 := by
        rcases h3 : nxtL 0 (us s) with ⟨q1, _ | t⟩
        · rw [h3] at h2
          cases h2
        · rw [h3] at h2
          simp only [] at h2
          split at h2
          · cases h2; rfl
          · split at h2
            · cases h2
            · cases h2; rfl
      rw [this]
      rfl
  rw [hR]
  have HR := Lib.hid hR0
  have HL := Lib.hid (show ln s ≤ 2199023255552 by omega)
  clear hs hln hR hR0
  go_enter Tryz.func13, Tryz.ntmps13
  go_wp2
  go_loopw [5, 6] (fun lv av wr => ∃ (j : Nat) (ts : List Tok) (v : Value), lv = v ∧ av = .int .i64 j ∧ j ≤ ln s ∧ Hid (ts.length ≤ j ∧ prepT ts (allG j ((us s).drop j)) = R) ∧ OwnT w.heap.size ts v wr ∧ Below w.heap.size w wr) (fun _ av _ => ln s - (intOf av).toNat)
  case atStart => exact ⟨0, [], _, rfl, by go_num, Nat.zero_le _, Lib.hid ⟨Nat.zero_le _, HR.out⟩, OwnT.nil _ _, Below.refl _ _⟩
  case round =>
    obtain ⟨j, ts, v, hv, rfl, hj, HJ, H, hb⟩ := hrel
    obtain rfl := hv.symm
    have C1 := CN.out j hj
    rw [nxtO_false] at C1
    obtain ⟨h1, h2⟩ := HJ.out
    rw [all_next] at h2
    have hsz := hb.size
    have H1 := Lib.hid h1
    have HJ3 := Lib.hid hj
    have htl : ts.length ≤ 2199023255552 := by have := HL.out; omega
    clear HJ h1 hj
    rcases hn : nxtL j ((us s).drop j) with ⟨q, _ | t⟩
    · rw [hn] at C1 h2
      obtain rfl : R = (q, none) := h2.symm
      have C1 := Lib.hid (show ∀ W, Cp 9 #[.string s, .int .i64 j, .bool false] W fun e w' => e = .returned (.tuple #[.agg #[.int .i64 0, .string ⟨#[]⟩, .float .f64 0, .bool false, .bool false, .int .i64 0, .int .i64 0], .int .i64 (q : Nat), .int .i64 60]) ∧ Below W.heap.size W w' from C1)
      clear hn h2 HR htl
      go_wp2_with fail
      refine (C1.out _).mono ?_
      rintro e w1 ⟨rfl, b1⟩
      have hb2 := Lib.hid ((hb.trans (b1.mono hsz)).alloc (by have := b1.size; omega) (.cells #[.int .i64 0, .string ⟨#[]⟩, .float .f64 0, .bool false, .bool false, .int .i64 0, .int .i64 0] 24))
      clear hb b1 H
      go_wp2_with (first | (refine wpList_store_row rfl 24 _ _ rfl w1.heap.size #[.int .i64 0, .string ⟨#[]⟩, .float .f64 0, .bool false, .bool false, .int .i64 0, .int .i64 0] rfl rfl 24 #[.int .i64 0, .string ⟨#[]⟩, .float .f64 0, .bool false, .bool false, .int .i64 0, .int .i64 0] (heap_alloc_last w1 _) (by first | kernel_rfl | rfl) rfl (by first | kernel_rfl | rfl) ?_; rw [World.setRow_alloc_new]))
      go_ret3
      exact ⟨rfl, hb2.out⟩
    · rw [hn] at C1 h2
      obtain ⟨n1, n2, n3, n4, n5, n6, rfl⟩ := nxt_in hn
      rw [List.length_drop, us_length] at n3
      have hfl : t.fin ≤ ln s := by have := HJ3.out; omega
      have n7 := fun h => nxt_lt hn h
      have C1 := Lib.hid (show ∀ W, Cp 9 #[.string s, .int .i64 j, .bool false] W fun e w' => e = .returned (.tuple #[.agg #[.int .i64 (t.kind : Int), .string ⟨(bL t.text).toArray⟩, .float .f64 t.num, .bool t.esc, .bool t.nl, .int .i64 (t.pos : Int), .int .i64 (t.fin : Int)], .int .i64 0, .int .i64 0]) ∧ Below W.heap.size W w' from C1)
      have HT : Hid (tkC t = [.int .i64 (t.kind : Int), .string ⟨(bL t.text).toArray⟩, .float .f64 t.num, .bool t.esc, .bool t.nl, .int .i64 (t.pos : Int), .int .i64 (t.fin : Int)]) := Lib.hid rfl
      obtain ⟨kd, hkd⟩ : ∃ kd : Int, (t.kind : Int) = kd := ⟨_, rfl⟩
      obtain ⟨tx, htx⟩ : ∃ tx : ByteArray, (⟨(bL t.text).toArray⟩ : ByteArray) = tx := ⟨_, rfl⟩
      obtain ⟨fi, hfi⟩ : ∃ fi : Int, (t.fin : Int) = fi := ⟨_, rfl⟩
      obtain ⟨po, hpo⟩ : ∃ po : Int, (t.pos : Int) = po := ⟨_, rfl⟩
      obtain ⟨xx, hxx⟩ : ∃ xx, t.num = xx := ⟨_, rfl⟩
      obtain ⟨es, hes⟩ : ∃ es, t.esc = es := ⟨_, rfl⟩
      obtain ⟨nl, hnl⟩ : ∃ nl, t.nl = nl := ⟨_, rfl⟩
      rw [hkd, htx, hfi, hpo, hxx, hes, hnl] at C1 HT
      have HKD := Lib.hid hkd
      have HFI := Lib.hid hfi
      have HFL := Lib.hid hfl
      have N7 := Lib.hid n7
      have HX : Hid (if t.kind = 1 then R = (0, some (ts ++ [t])) else prepT (ts ++ [t]) (allG t.fin ((us s).drop t.fin)) = R) := Lib.hid (by
        rw [← h2]
        simp only []
        split
        · rfl
        · rw [List.drop_drop, show j + (t.fin - j) = t.fin by omega]
          rcases allG t.fin ((us s).drop t.fin) with ⟨q, _ | us⟩
          · rfl
          · simp [prepT])
      clear htx hfi hpo hxx hes hnl hn h2 n1 n2 n3 n4 n5 n6 n7 hfl HR
      have main : ∀ b : Bool, decide (t.kind = 1) = b → (kd == 1) = b := fun b h => by
        rw [← h, ← hkd, Bool.eq_iff_iff]
        simp
        omega
      clear hkd
      cases hk : decide (t.kind = 1)
      all_goals
        have g1 := main _ hk
        have HK := Lib.hid hk
        clear main hk
        go_wp2_with fail
        refine (C1.out _).mono ?_
        rintro e w1 ⟨rfl, b1⟩
        have hb1 := hb.trans (b1.mono hsz)
        have o1 := OwnT.below H b1
        have hs1 := b1.size
        have HLT := Lib.hid (fun k hk => World.ownsRow.lt H k hk)
        clear H hb b1
        have HC1 := Lib.hid (tok_cells w1 kd po fi tx xx es nl)
        have HC2 : Hid (∀ u ∈ ([.int .i64 kd, .string tx, .float .f64 xx, .bool es, .bool nl, .int .i64 po, .int .i64 fi] : List Value), u.oneCell' = true) := Lib.hid (by simp [Value.oneCell'])
        have HC3 : Hid (w.heap.size ≤ ((w1.alloc (.cells #[.int .i64 kd, .string tx, .float .f64 xx, .bool es, .bool nl, .int .i64 po, .int .i64 fi] 24)).alloc (.cells #[.int .i64 kd, .string tx, .float .f64 xx, .bool es, .bool nl, .int .i64 po, .int .i64 fi] 24)).heap.size) := Lib.hid (by simp; omega)
        go_wp2_with (first | (refine wpList_store_row rfl 24 _ _ rfl w1.heap.size #[.int .i64 kd, .string tx, .float .f64 xx, .bool es, .bool nl, .int .i64 po, .int .i64 fi] rfl rfl 24 #[.int .i64 0, .string ⟨#[]⟩, .float .f64 0, .bool false, .bool false, .int .i64 0, .int .i64 0] (heap_alloc_last w1 _) (by first | kernel_rfl | rfl) rfl (by first | kernel_rfl | rfl) ?_; rw [World.setRow_alloc_new]) | (at_builtin; refine wpList_append_own _ rfl _ _ 31 rfl w.heap.size 24 i0 (.agg #[.int .i64 0, .string ⟨#[]⟩, .float .f64 0, .bool false, .bool false, .int .i64 0, .int .i64 0]) 7 56 Tryz.underlying31 hi hz0 hz1 hz2 rfl (by decide) _ _ _ rfl (World.ownsRow.alloc (w := w1.alloc (.cells #[.int .i64 kd, .string tx, .float .f64 xx, .bool es, .bool nl, .int .i64 po, .int .i64 fi] 24)) (World.ownsRow.alloc (w := w1) o1 _) _) ⟨w1.heap.size + 1, 0, none⟩ 1 1 [.int .i64 kd, .string tx, .float .f64 xx, .bool es, .bool nl, .int .i64 po, .int .i64 fi] rfl rfl HC1.out HC2.out (by unfold maxLen; omega) (by omega) HC3.out ?_))
        intro v' w2 hown hg _
        have o2 : OwnT w.heap.size (ts ++ [t]) v' w2 := by
          unfold OwnT
          rw [List.length_append, List.flatMap_append, List.flatMap_cons, List.flatMap_nil, List.append_nil, HT.out]
          exact hown
        have hG : w2.heap[w1.heap.size]? = some (.cells #[.int .i64 kd, .string tx, .float .f64 xx, .bool es, .bool nl, .int .i64 po, .int .i64 fi] 24 (0, 0)) := (hg.block _ (by simp; omega) (fun e => by have := (HLT.out _ e.symm).2; omega)).trans (tok_first w1 kd po fi tx xx es nl)
        have c0 : w2.cell? ⟨w1.heap.size, 0, none⟩ = some (.int .i64 kd) := by simp [World.cell?, hG]
        have c6 : w2.cell? ⟨w1.heap.size, 6, none⟩ = some (.int .i64 fi) := by simp [World.cell?, hG]
        have hb2 : Below w.heap.size w w2 := ((hb1.alloc (by omega) (.cells #[.int .i64 kd, .string tx, .float .f64 xx, .bool es, .bool nl, .int .i64 po, .int .i64 fi] 24)).alloc (by simp; omega) (.cells #[.int .i64 kd, .string tx, .float .f64 xx, .bool es, .bool nl, .int .i64 po, .int .i64 fi] 24)).grown hg HC3.out (fun k hk => (HLT.out k hk).1)
        clear hown hg hG o1 hb1
        go_wp2
        first
          | (go_ret3
             have hR := HX.out
             rw [if_pos (by simpa using HK.out)] at hR
             rw [hR]
             exact ⟨⟨v', rfl, o2⟩, hb2⟩)
          | (go_roundw
             case rel =>
               have hk1 : t.kind ≠ 1 := by simpa using HK.out
               have hR := HX.out
               rw [if_neg hk1] at hR
               exact ⟨t.fin, ts ++ [t], v', rfl, by rw [HFI.out], HFL.out, Lib.hid ⟨by rw [List.length_append, List.length_singleton]; have := H1.out; have := N7.out hk1; omega, hR⟩, o2, hb2⟩
             case measure =>
               have hk1 : t.kind ≠ 1 := by simpa using HK.out
               have := N7.out hk1
               have := HFL.out
               have := HFI.out
               simp [intOf]
               omega)

end Go.Proofs.YtjmplgbhjpldbaaGreatDoor
namespace Go.Proofs.YtjmplgbhjpldbaaGreatDoor
open Go.RowKit
def awT : List Tok := [⟨2, [97], 0, false, false, 0, 1⟩, ⟨4, [43, 43], 0, false, false, 1, 3⟩, ⟨4, [43], 0, false, false, 3, 4⟩, ⟨2, [98], 0, false, false, 4, 5⟩, ⟨1, [], 0, false, false, 5, 5⟩]
theorem awake_all : allL [97, 43, 43, 43, 98] = (0, some awT) := by kernel_rfl
theorem own_tok {B : Nat} {ts : List Tok} {v : Value} {w : World} (h : OwnT B ts v w) : (ts = [] ∧ v = .slice none 0 0) ∨ ∃ g cap, v = .slice (some ⟨g, 0, none⟩) ts.length cap ∧ ts.length ≤ cap ∧ B ≤ g ∧ g < w.heap.size ∧ ∀ i x, (ts.flatMap tkC)[i]? = some x → w.cell? ⟨g, i, none⟩ = some x := by
 obtain ⟨hn, h⟩ := h
 rcases h with ⟨hv, h0⟩ | ⟨g, cap, cur, hv, hb, hg, hc, hm, hsz, ht⟩
 ·exact .inl ⟨List.eq_nil_of_length_eq_zero h0, hv⟩
 ·refine .inr ⟨g, cap, hv, hc, hb, (Array.getElem?_eq_some_iff.1 hg).1, fun i x hx => ?_⟩
  have hi : i < ts.length * 7 := by rw [← hn]; exact (List.getElem?_eq_some_iff.1 hx).1
  rw [← ht, List.getElem?_take_of_lt hi] at hx
  unfold World.cell?
  simp only []
  rw [hg]
  simpa using hx
theorem kept_cellU {W w' : World} (hb : Below W.heap.size W w') : ∀ a v, W.cell? ⟨a, v.1, none⟩ = some v.2 → w'.cell? ⟨a, v.1, none⟩ = some (v : Nat × Value).2 := fun a v h => by
 have hlt : a < W.heap.size := by
  rcases Nat.lt_or_ge a W.heap.size with h1 | h1
  ·exact h1
  ·unfold World.cell? at h
   simp only [] at h
   rw [Array.getElem?_eq_none h1] at h
   cases h
 exact (hb.cell (p := ⟨a, v.1, none⟩) hlt).trans h
set_option maxRecDepth 100000 in
set_option maxHeartbeats 4000000 in
theorem awake_any (w : World) : Ct 12 #[] (.bool true) w := by
 obtain ⟨X, hX⟩ : ∃ X : ByteArray, (⟨(bL [97, 43, 43, 43, 98]).toArray⟩ : ByteArray) = X := ⟨_, rfl⟩
 obtain ⟨Y, hY⟩ : ∃ Y : ByteArray, (⟨(bL [43, 43]).toArray⟩ : ByteArray) = Y := ⟨_, rfl⟩
 have CX := fun W => rwide_any ⟨#[97, 43, 43, 43, 98]⟩ W (by decide)
 have CY := fun W => rwide_any ⟨#[43, 43]⟩ W (by decide)
 rw [show wdL ⟨#[97, 43, 43, 43, 98]⟩ = [97, 43, 43, 43, 98] from rfl, hX] at CX
 rw [show wdL ⟨#[43, 43]⟩ = [43, 43] from rfl, hY] at CY
 have hXs : X.size ≤ 4398046511104 := by rw [← hX]; decide
 have CA := fun W => xAll_any X W hXs
 rw [show us X = [97, 43, 43, 43, 98] by rw [← hX]; exact us_bL (by decide), awake_all] at CA
 have CX := Lib.hid CX
 have CY := Lib.hid CY
 have CA := Lib.hid CA
 have HY := Lib.hid hY
 clear hX hY hXs
 go_enter Tryz.func12, Tryz.ntmps12
 go_wp2_with fail
 refine (CX.out _).mono ?_
 rintro e w1 ⟨rfl, b1⟩
 go_wp2_with fail
 refine (CA.out _).mono ?_
 rintro e w2 ⟨⟨v, rfl, ho⟩, b2⟩
 have hb := Lib.hid (below_le b1 b2)
 rcases own_tok ho with ⟨h, _⟩ | ⟨g, cap, rfl, hcap, hg1, hg2, hcell⟩
 ·cases h
 ·have c7 := hcell 7 (.int .i64 4) rfl
  have c8 := hcell 8 (.string Y) (by rw [← HY.out]; rfl)
  have c21 := hcell 21 (.int .i64 2) rfl
  have hcap5 : (5 : Nat) ≤ cap := hcap
  have CY2 : Hid (∀ W, Cp 28 #[.string ⟨#[43, 43]⟩] W fun e w' => e = .returned (.string Y) ∧ Below W.heap.size W w' ∧ (W.cell? ⟨g, 7, none⟩ = some (.int .i64 4) → w'.cell? ⟨g, 7, none⟩ = some (.int .i64 4)) ∧ (W.cell? ⟨g, 8, none⟩ = some (.string Y) → w'.cell? ⟨g, 8, none⟩ = some (.string Y)) ∧ (W.cell? ⟨g, 21, none⟩ = some (.int .i64 2) → w'.cell? ⟨g, 21, none⟩ = some (.int .i64 2))) := Lib.hid (fun W => (CY.out W).mono fun e w' ⟨he, hb⟩ => ⟨he, hb, kept_cellU hb g (7, _), kept_cellU hb g (8, _), kept_cellU hb g (21, _)⟩)
  clear b1 b2 ho hcell hcap hg1 hg2
  rw [show awT.length = 5 from rfl]
  go_wp2
  go_region_held3 (fun w' => w'.cell? ⟨g, 7, none⟩ = some (.int .i64 4) ∧ w'.cell? ⟨g, 8, none⟩ = some (.string Y) ∧ w'.cell? ⟨g, 21, none⟩ = some (.int .i64 2)) (go_keep) ((go_at_call 28; refine (CY2.out _).mono ?_; rintro e w3 ⟨rfl, b3, k1, k2, k3⟩; have q1 := k1 c7; have q2 := k2 c8; have q3 := k3 c21))
  all_goals
   have hb3 := Lib.hid (below_le (below_drewN' hb.out 1) b3)
   clear b3 q1 q2 q3 k1 k2 k3 c7 c8 c21
   go_wp2
   go_ret
   exact ⟨rfl, by simpa using hb3.out⟩

end Go.Proofs.YtjmplgbhjpldbaaGreatDoor
namespace Go.Proofs.YtjmplgbhjpldbaaGreatDoor
def hxU (d : Nat) : Nat := if d < 10 then 48 + d else 55 + d
def escU (c : Nat) : List Nat := [92, 117, hxU (c / 4096 % 16), hxU (c / 256 % 16), hxU (c / 16 % 16), hxU (c % 16)]
def quoU (c : Nat) : List Nat := if c = 34 ∨ c = 92 then [92, c] else if 32 ≤ c ∧ c ≤ 126 then [c] else escU c
def quoL (s : List Nat) : List Nat := 34 :: (s.flatMap quoU ++ [34])
def speU (c : Nat) : List Nat := if c < 128 then [c] else escU c
def speL (s : List Nat) : List Nat := s.flatMap speU
def namB (s : List Nat) : Bool := match s with
 | [] => false
 | c :: r => stN c && r.all ptN
theorem hxV_hxU {d : Nat} (h : d < 16) : hxV (hxU d) = some d := by
 have key : ∀ k : Fin 16, hxV (hxU k.val) = some k.val := by decide
 exact key ⟨d, h⟩
theorem hexA_escU {c : Nat} (hc : c < 65536) (r : List Nat) : hexA 0 4 (hxU (c / 4096 % 16) :: hxU (c / 256 % 16) :: hxU (c / 16 % 16) :: hxU (c % 16) :: r) = some c := by
 rw [hexA, hxV_hxU (by omega), Option.bind_some]
 show hexA (0 * 16 + c / 4096 % 16) 3 _ = some c
 rw [hexA, hxV_hxU (by omega), Option.bind_some]
 show hexA ((0 * 16 + c / 4096 % 16) * 16 + c / 256 % 16) 2 _ = some c
 rw [hexA, hxV_hxU (by omega), Option.bind_some]
 show hexA (((0 * 16 + c / 4096 % 16) * 16 + c / 256 % 16) * 16 + c / 16 % 16) 1 _ = some c
 rw [hexA, hxV_hxU (by omega), Option.map_some]
 congr 1
 omega
theorem enN_print {c : Nat} (h : 32 ≤ c ∧ c ≤ 126) : enN c = false := by
 have key : ∀ k : Fin 127, 32 ≤ k.val → enN k.val = false := by decide
 exact key ⟨c, by omega⟩ h.1
theorem esc_two {c : Nat} (h : c = 34 ∨ c = 92) (r : List Nat) : escL (c :: r) = some ([c], 1) := by
 rcases h with rfl | rfl <;> rfl
theorem esc_four {c : Nat} (hc : c < 65536) (r : List Nat) : escL (117 :: hxU (c / 4096 % 16) :: hxU (c / 256 % 16) :: hxU (c / 16 % 16) :: hxU (c % 16) :: r) = some ([c], 5) := by
 rw [escL, if_neg (by omega), if_pos rfl, hexA_escU hc]
 rfl
theorem str_quo : ∀ (s : List Nat) (f : Nat) (r : List Nat), (∀ c ∈ s, c < 65536) → (s.flatMap quoU ++ 34 :: r).length < f → strF f 34 (s.flatMap quoU ++ 34 :: r) = some (s, (s.flatMap quoU).length + 1)
 | [], f, r, _, hf => by
  obtain ⟨g, rfl⟩ : ∃ g, f = g + 1 := ⟨f - 1, by omega⟩
  show strF (g + 1) 34 (34 :: r) = _
  rw [strF, show enN 34 = false by decide, if_neg (by simp), if_pos rfl]
  rfl
 | c :: s, f, r, hs, hf => by
  have hc := hs c (by simp)
  have ih := fun g (hg : (s.flatMap quoU ++ 34 :: r).length < g) => str_quo s g r (fun d hd => hs d (by simp [hd])) hg
  rw [List.flatMap_cons, List.append_assoc] at hf ⊢
  rw [List.length_append] at hf
  rw [List.length_append]
  obtain ⟨T, hT⟩ : ∃ T, s.flatMap quoU ++ 34 :: r = T := ⟨_, rfl⟩
  rw [hT] at hf ih ⊢
  obtain ⟨K, hK⟩ : ∃ K, (s.flatMap quoU).length = K := ⟨_, rfl⟩
  rw [hK] at ih ⊢
  clear hT hK
  unfold quoU at hf ⊢
  split at hf
  ·rename_i h
   rw [if_pos h]
   obtain ⟨g, rfl⟩ : ∃ g, f = g + 1 := ⟨f - 1, by omega⟩
   show strF (g + 1) 34 (92 :: c :: T) = _
   rw [strF, show enN 92 = false by decide, if_neg (by simp), if_neg (by omega), if_pos rfl, esc_two h]
   show (strF g 34 T).map _ = _
   rw [ih g (by simp at hf; omega), Option.map_some]
   exact congrArg some (Prod.ext rfl (by simp only [List.length_cons, List.length_nil]; omega))
  ·rename_i h
   rw [if_neg h]
   split at hf
   ·rename_i h2
    rw [if_pos h2]
    obtain ⟨g, rfl⟩ : ∃ g, f = g + 1 := ⟨f - 1, by omega⟩
    show strF (g + 1) 34 (c :: T) = _
    rw [strF, enN_print h2, if_neg (by simp), if_neg (fun k => h (.inl k)), if_neg (fun k => h (.inr k)), ih g (by simp at hf; omega), Option.map_some]
    exact congrArg some (Prod.ext rfl (by simp only [List.length_cons, List.length_nil]; omega))
   ·rename_i h2
    rw [if_neg h2]
    obtain ⟨g, rfl⟩ : ∃ g, f = g + 1 := ⟨f - 1, by omega⟩
    show strF (g + 1) 34 (92 :: 117 :: hxU (c / 4096 % 16) :: hxU (c / 256 % 16) :: hxU (c / 16 % 16) :: hxU (c % 16) :: T) = _
    rw [strF, show enN 92 = false by decide, if_neg (by simp), if_neg (by omega), if_pos rfl, esc_four hc]
    show (strF g 34 T).map _ = _
    rw [ih g (by simp [escU] at hf; omega), Option.map_some]
    exact congrArg some (Prod.ext rfl (by simp only [escU, List.length_cons, List.length_nil]; omega))
theorem quo_read {s : List Nat} (hs : ∀ c ∈ s, c < 65536) : readL (quoL s) = some (6, s, 0, false, (quoL s).length) := by
 unfold quoL
 rw [readL, show (stN 34 || (34 : Nat) == 92) = false by decide, if_neg (by simp), show ((34 : Nat) == 34 || (34 : Nat) == 39) = true by decide, if_pos rfl]
 unfold strL
 rw [str_quo s _ [] hs (by omega)]
 simp
 omega
theorem skip_none {c : Nat} {r : List Nat} (h1 : enN c = false) (h2 : spN c = false) (h3 : c ≠ 47) : skipL (c :: r) = (0, false, true) := by
 unfold skipL
 rw [skipF, gapL, h1, if_neg (by simp), h2, if_neg (by simp), if_neg (fun k => h3 k.1), if_neg (fun k => h3 k.1)]
theorem st_92 : stN 92 = false ∧ ptN 92 = false := by decide +kernel
theorem fit_pt {b : Bool} {c : Nat} (h : fitN b c = true) : ptN c = true := by
 unfold fitN at h
 split at h
 ·unfold stN at h
  unfold ptN ptB
  rw [h]
  rfl
 ·exact h
theorem fit_92 {b : Bool} {c : Nat} (h : fitN b c = true) : c ≠ 92 := by
 rintro rfl
 have := fit_pt h
 rw [st_92.2] at this
 cases this
theorem nam_spe : ∀ (s : List Nat) (f : Nat) (b : Bool), (∀ c ∈ s, c < 65536) → (∀ c, s.head? = some c → fitN b c = true) → (∀ c ∈ s.tail, ptN c = true) → (speL s).length < f → ∃ e, namF f b (speL s) = some (s, e, (speL s).length)
 | [], f, b, _, _, _, hf => by
  obtain ⟨g, rfl⟩ : ∃ g, f = g + 1 := ⟨f - 1, by omega⟩
  exact ⟨false, rfl⟩
 | c :: s, f, b, hs, hh, ht, hf => by
  have hc := hs c (by simp)
  have hfit := hh c rfl
  have hpt : ∀ d ∈ s, ptN d = true := ht
  have ih := fun g (hg : (speL s).length < g) => nam_spe s g false (fun d hd => hs d (by simp [hd])) (fun d hd => by
   cases s with
   | nil => cases hd
   | cons a t =>
    have : a = d := by simpa using hd
    subst this
    exact hpt a (by simp)) (fun d hd => by
   cases s with
   | nil => cases hd
   | cons a t => exact hpt d (by simp at hd; simp [hd])) hg
  have e : speL (c :: s) = speU c ++ speL s := List.flatMap_cons
  rw [e] at hf ⊢
  rw [List.length_append] at hf
  rw [List.length_append]
  unfold speU at hf ⊢
  split at hf
  ·rename_i h
   rw [if_pos h]
   obtain ⟨g, rfl⟩ : ∃ g, f = g + 1 := ⟨f - 1, by omega⟩
   obtain ⟨e1, h1⟩ := ih g (by simp at hf; omega)
   refine ⟨e1, ?_⟩
   show namF (g + 1) b (c :: speL s) = _
   rw [namF, if_neg (fit_92 hfit), if_pos hfit, h1]
   rfl
  ·rename_i h
   rw [if_neg h]
   obtain ⟨g, rfl⟩ : ∃ g, f = g + 1 := ⟨f - 1, by omega⟩
   obtain ⟨e1, h1⟩ := ih g (by simp [escU] at hf; omega)
   refine ⟨true, ?_⟩
   show namF (g + 1) b (92 :: 117 :: hxU (c / 4096 % 16) :: hxU (c / 256 % 16) :: hxU (c / 16 % 16) :: hxU (c % 16) :: speL s) = _
   rw [namF, if_pos rfl, if_pos (hd0_cons _ _), List.tail_cons, hexA_escU hc]
   simp only
   rw [if_pos hfit]
   show (namF g false (speL s)).map _ = _
   rw [h1]
   simp [escU]
theorem spe_read {s : List Nat} (hs : ∀ c ∈ s, c < 65536) (hn : namB s = true) : ∃ e, readL (speL s) = some (if resB s = true then 3 else 2, s, 0, e, (speL s).length) := by
 cases s with
 | nil => cases hn
 | cons c r =>
  unfold namB at hn
  rw [Bool.and_eq_true] at hn
  obtain ⟨e, he⟩ := nam_spe (c :: r) ((speL (c :: r)).length + 1) true hs (fun d hd => by
   have : c = d := by simpa using hd
   subst this
   exact hn.1) (fun d hd => List.all_eq_true.1 hn.2 d hd) (by omega)
  refine ⟨e, ?_⟩
  have hne : ∃ a t, speL (c :: r) = a :: t ∧ (stN a || a == 92) = true := by
   have e2 : speL (c :: r) = speU c ++ speL r := List.flatMap_cons
   rw [e2]
   unfold speU
   split
   ·exact ⟨c, speL r, rfl, by rw [hn.1]; rfl⟩
   ·exact ⟨92, _, rfl, by rw [st_92.1]; rfl⟩
  obtain ⟨a, t, h1, h2⟩ := hne
  rw [h1] at he ⊢
  rw [readL, if_pos h2]
  unfold namL
  rw [he]
  rfl


end Go.Proofs.YtjmplgbhjpldbaaGreatDoor
