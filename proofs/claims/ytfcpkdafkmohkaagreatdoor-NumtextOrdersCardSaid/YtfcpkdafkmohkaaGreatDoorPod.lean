/-
  Merged texts (To, Us, Tp, Tq, Tr, Wa, Wb, Wc, Sa, Sb, Sc, Sd, Se, Wd, We, Wf, Wh, Wg, Wi, Wk, Wl, Sf, Wm, Wn, Wo, Wp, Wq, Vv, Lk, Re, Lo, Lp).
-/
import Derived.Test.YtfcpkdafkmohkaaGreatDoorPoc
import Derived.Shelf.Strings.Builder1
import Derived.Shelf.Strings.Builder2
import Derived.Shelf.Strings.OnBuilder
import Derived.Shelf.Strings.Trim
import Derived.Shelf.Small.Utf8
import Derived.Shelf.Small.Bits
import Derived.Shelf.Small.Strs
import Derived.Shelf.Small.Wraps
import Derived.Shelf.Strings.BuilderF
import Derived.Shelf.Strings.BuilderK
import Derived.Shelf.Strconv.Itoa0
import Derived.Shelf.Strconv.Itoa1
import Derived.Shelf.LaysM
import Derived.Shelf.Strconv.Itoa2
import Derived.Shelf.Strconv.Itoa3
import Derived.Shelf.Strings.Search1
import Derived.Shelf.Strings.Prefix
import Derived.Shelf.Unicode.Latin
import Derived.Shelf.Strings.Runes
import Derived.Shelf.Strings.AsciiSet
import Derived.Shelf.Bits.Mul64
import Derived.Shelf.Strings.Repeat
import Derived.Shelf.Unicode.DecodeSlow
import Derived.Shelf.Unicode.CaseLookup
import Derived.Shelf.Unicode.CaseConvert
import Derived.Shelf.Unicode.CaseTo
import Derived.Shelf.Unicode.CaseLaid
import Derived.Shelf.Strings.SlTrimAscii
import Derived.Test.YtfcpkdafkmohkaaGreatDoorProg
import GoSem.Core.Utf8
import Derived.WalkKit
import Derived.WalkSpells
import Derived.WalkLawsBesides
import Derived.Deep.QuietTactic
import Derived.BigQuiet
import Derived.Lib.Hide
import Derived.Deep.OwnRows
import Derived.Laws.CopyOwn
import Derived.Deep.AppendLies
import Derived.Lib.BitFns
import Derived.Lib.Strings
import Derived.Laws.BitsAllLaws
import Derived.Lib.LaidTab
import Derived.ProofKit
import Derived.OpenShut
import Derived.SizedLaws
import Derived.Laws.BytesString
import Derived.Laws.Cells
import Derived.Deep.RegionWith
import Derived.BigRegion
import Derived.Test.YtfcpkdafkmohkaaGreatDoorRows
import Derived.Deep.RegionHeld3
import Derived.Laws.Closers25b
import Ieee.Arith
import GoSem.Core.Float
import Derived.Lib.ItoaNum
import Derived.Deep.DeepCutAuto
import Derived.Laws.FloatArith
import Derived.Laws.Externs
import Derived.Lib.SlTrimSet
import Derived.Lib.Case
import Derived.Deep.WholeRow
import Derived.Laws.Tables
import Derived.Laws.EntriesVeiled
import Derived.Lib.AppendIntMem
namespace Go.Proofs.YtfcpkdafkmohkaaGreatDoor
open Go.RowKit
set_option maxRecDepth 100000 in
set_option maxHeartbeats 1000000 in
theorem tnumber_inf (s u v : ByteArray) (b : Bool) (w : World)
  (C1 : Hid (∀ W, Cq 84 #[.string s] (.tuple #[.float .f64 (sgF b : Nat), .string u]) W))
  (C2 : Hid (∀ W, Cq 131 #[.string u, .string ⟨#[73, 110, 102, 105, 110, 105, 116, 121]⟩] (.tuple #[.string v, .bool true]) W)) :
  Ct 76 #[.string s] (.tuple #[.float .f64 (sgW b 9218868437227405312), .string v, .bool true]) w := by
 have C3 := Lib.hid (fun W => inf1_any W)
 have C4 := Lib.hid (fun W => tcopysign_any 9218868437227405312 b W (by omega))
 go_enter Tryz.func76, Tryz.ntmps76
 go_wp2_with fail
 refine (C1.out _).mono ?_
 rintro e w' ⟨rfl, rfl⟩
 go_wp2_with fail
 refine (C2.out _).mono ?_
 rintro e w' ⟨rfl, rfl⟩
 go_wp2_with fail
 refine (C3.out _).mono ?_
 rintro e w' ⟨rfl, rfl⟩
 go_wp2_with fail
 refine (C4.out _).mono ?_
 rintro e w' ⟨rfl, rfl⟩
 go_wp2
 refine bodyPost_ret (results_tmp3 rfl _ _ _) rfl ?_
 exact ⟨rfl, Below.refl _ _⟩
set_option maxRecDepth 100000 in
set_option maxHeartbeats 1000000 in
theorem tnumber_dec (s u v p q r : ByteArray) (X : Int) (F : Nat) (b : Bool) (w : World) (hF : F < 9223372036854775808)
  (C1 : Hid (∀ W, Cq 84 #[.string s] (.tuple #[.float .f64 (sgF b : Nat), .string u]) W))
  (C2 : Hid (∀ W, Cq 131 #[.string u, .string ⟨#[73, 110, 102, 105, 110, 105, 116, 121]⟩] (.tuple #[.string v, .bool false]) W))
  (C3 : Hid (∀ W, Ct 68 #[.string u] (.tuple #[.agg #[.string p, .string q, .int .i64 X], .string r, .bool true]) W))
  (C4 : Hid (∀ W, Ct 69 #[.agg #[.string p, .string q, .int .i64 X]] (.float .f64 F) W)) :
  Ct 76 #[.string s] (.tuple #[.float .f64 (sgW b F), .string r, .bool true]) w := by
 have C5 := Lib.hid (fun W => tcopysign_any F b W hF)
 clear hF
 go_enter Tryz.func76, Tryz.ntmps76
 go_wp2_with fail
 refine (C1.out _).mono ?_
 rintro e w' ⟨rfl, rfl⟩
 go_wp2_with fail
 refine (C2.out _).mono ?_
 rintro e w' ⟨rfl, rfl⟩
 go_wp2_with fail
 refine (C3.out _).mono ?_
 rintro e w1 ⟨rfl, b1⟩
 have B1 := Lib.hid (alloc_below (.cells #[.string p, .string q, .int .i64 X] 64) b1)
 clear b1
 go_wp2_with fail
 refine (C4.out _).mono ?_
 rintro e w2 ⟨rfl, b2⟩
 have B2 := Lib.hid (below_le B1.out b2)
 clear b2
 go_wp2_with fail
 refine (C5.out _).mono ?_
 rintro e w' ⟨rfl, rfl⟩
 go_wp2
 refine bodyPost_ret (results_tmp3 rfl _ _ _) rfl ?_
 exact ⟨rfl, B2.out⟩
set_option maxRecDepth 100000 in
set_option maxHeartbeats 1000000 in
theorem tnumber_none (s u v : ByteArray) (b : Bool) (w : World)
  (C1 : Hid (∀ W, Cq 84 #[.string s] (.tuple #[.float .f64 (sgF b : Nat), .string u]) W))
  (C2 : Hid (∀ W, Cq 131 #[.string u, .string ⟨#[73, 110, 102, 105, 110, 105, 116, 121]⟩] (.tuple #[.string v, .bool false]) W))
  (C3 : Hid (∀ W, Ct 68 #[.string u] (.tuple #[.agg #[.string ⟨#[]⟩, .string ⟨#[]⟩, .int .i64 0], .string ⟨#[]⟩, .bool false]) W)) :
  Ct 76 #[.string s] (.tuple #[.float .f64 0, .string ⟨#[]⟩, .bool false]) w := by
 go_enter Tryz.func76, Tryz.ntmps76
 go_wp2_with fail
 refine (C1.out _).mono ?_
 rintro e w' ⟨rfl, rfl⟩
 go_wp2_with fail
 refine (C2.out _).mono ?_
 rintro e w' ⟨rfl, rfl⟩
 go_wp2_with fail
 refine (C3.out _).mono ?_
 rintro e w1 ⟨rfl, b1⟩
 have B1 := Lib.hid (alloc_below (.cells #[.string ⟨#[]⟩, .string ⟨#[]⟩, .int .i64 0] 64) b1)
 clear b1
 go_wp2
 refine bodyPost_ret (results_tmp3 rfl _ _ _) rfl ?_
 exact ⟨rfl, B1.out⟩
theorem decR_fin (N : Nat) (e : Int) : decR N e ≤ 9218868437227405312 := by unfold decR rnd; exact Nat.min_le_right _ _
def nbB (l : List Nat) : Bool := infB (unsg l) || dB (unsg l)
def nbV (l : List Nat) : Nat := if infB (unsg l) = true then sgW (sgnB l) 9218868437227405312 else if dB (unsg l) = true then sgW (sgnB l) (dV (unsg l)) else 0
def nbR (l : List Nat) : List Nat := if infB (unsg l) = true then (unsg l).drop 8 else if dB (unsg l) = true then dR (unsg l) else []
theorem tnumber_any (l : List Nat) (w : World) (hl : ∀ c ∈ l, c < 256) (hs : l.length ≤ 140737488355328) :
  Ct 76 #[.string (strOf l)] (.tuple #[.float .f64 (nbV l), .string (strOf (nbR l)), .bool (nbB l)]) w := by
 have C1 : ∀ W, Cq 84 #[.string (strOf l)] (.tuple #[.float .f64 (sgF (sgnB l) : Nat), .string (strOf (unsg l))]) W := by
  intro W
  have := tcutSign_any (strOf l) W
  rw [bl_strOf hl] at this
  exact this
 obtain ⟨u, hu⟩ : ∃ u, unsg l = u := ⟨_, rfl⟩
 have hul : ∀ c ∈ u, c < 256 := fun c hc => hl c (unsg_sub c (by rw [hu]; exact hc))
 have hus : u.length ≤ 140737488355328 := by rw [← hu]; exact Nat.le_trans (unsg_len l) hs
 rw [hu] at C1
 have C2 := fun W => cut_any' (strOf u) ⟨#[73, 110, 102, 105, 110, 105, 116, 121]⟩ W
 rw [bl_strOf hul, show bl ⟨#[73, 110, 102, 105, 110, 105, 116, 121]⟩ = infL from rfl, show (⟨#[73, 110, 102, 105, 110, 105, 116, 121]⟩ : ByteArray).size = 8 from rfl] at C2
 have e1 : infL.isPrefixOf u = infB u := rfl
 rw [e1] at C2
 unfold nbV nbR nbB
 rw [hu]
 cases hi : infB u
 ·rw [hi, if_neg (by simp)] at C2
  simp only [Bool.false_eq_true, if_false, Bool.false_or]
  cases hd : dB u
  ·simp only [Bool.false_eq_true, if_false]
   refine tnumber_none _ _ _ _ w (Lib.hid C1) (Lib.hid C2) (Lib.hid (fun W => ?_))
   have := tcutDecimal_no (strOf u) W (by rw [strOf_size]; omega) (by rw [bl_strOf hul]; exact hd)
   exact this
  ·simp only [if_true]
   refine tnumber_dec _ _ _ _ _ _ _ _ _ w (by have := decR_fin (num 10 (dW u ++ dF u)) (dX u - (dF u).length); unfold dV; omega) (Lib.hid C1) (Lib.hid C2) (Lib.hid (fun W => ?_)) (Lib.hid (fun W => tfloat_dec u W (by omega)))
   have := tcutDecimal_yes (strOf u) W (by rw [strOf_size]; omega) (by rw [bl_strOf hul]; exact hd)
   rw [bl_strOf hul] at this
   exact this
 ·rw [hi, if_pos rfl] at C2
  simp only [if_true, Bool.true_or]
  exact tnumber_inf _ _ _ _ w (Lib.hid C1) (Lib.hid C2)

end Go.Proofs.YtfcpkdafkmohkaaGreatDoor
namespace Go.Proofs.YtfcpkdafkmohkaaGreatDoor
def uL : List UInt8 → List Nat
 | a :: b :: r => (a.toNat * 256 + b.toNat) :: uL r
 | _ => []

def bL (l : List Nat) : List UInt8 := l.flatMap fun u => [UInt8.ofNat (u / 256), UInt8.ofNat u]

theorem uL_length : ∀ l : List UInt8, (uL l).length = l.length / 2
 | [] => rfl
 | [_] => by simp [uL]
 | a :: b :: r => by
  have := uL_length r
  simp only [uL, List.length_cons, this]
  omega

theorem uL_get : ∀ (l : List UInt8) (i : Nat) (h : 2 * i + 1 < l.length), (uL l)[i]? = some (l[2 * i].toNat * 256 + l[2 * i + 1].toNat)
 | [], i, h => by simp at h
 | [_], i, h => by simp at h
 | a :: b :: r, 0, _ => by simp [uL]
 | a :: b :: r, i + 1, h => by
  have := uL_get r i (by simp at h; omega)
  simp only [uL, List.getElem?_cons_succ, this]
  rfl

theorem uL_lt : ∀ (l : List UInt8), ∀ u ∈ uL l, u < 65536
 | [], u, h => by simp [uL] at h
 | [_], u, h => by simp [uL] at h
 | a :: b :: r, u, h => by
  simp only [uL, List.mem_cons] at h
  rcases h with rfl | h
  ·have := a.toNat_lt; have := b.toNat_lt; omega
  ·exact uL_lt r u h

theorem bL_cons (u : Nat) (l : List Nat) : bL (u :: l) = UInt8.ofNat (u / 256) :: UInt8.ofNat u :: bL l := rfl
theorem bL_append (l m : List Nat) : bL (l ++ m) = bL l ++ bL m := by simp [bL]
theorem bL_one (u : Nat) : bL [u] = [UInt8.ofNat (u / 256), UInt8.ofNat u] := rfl
theorem bL_length : ∀ l : List Nat, (bL l).length = 2 * l.length
 | [] => rfl
 | u :: r => by rw [bL_cons]; simp [bL_length r]; omega

theorem uL_bL : ∀ (l : List Nat), (∀ u ∈ l, u < 65536) → uL (bL l) = l
 | [], _ => rfl
 | u :: r, h => by
  have hu := h u (by simp)
  rw [bL_cons, uL, uL_bL r (fun v hv => h v (by simp [hv]))]
  simp
  omega

def us (s : ByteArray) : List Nat := uL s.data.toList
def ln (s : ByteArray) : Nat := s.size / 2
def un (s : ByteArray) (i : Nat) : Nat := (us s).getD i 0

theorem ln_le (s : ByteArray) : 2 * ln s ≤ s.size := by unfold ln; omega
theorem us_length (s : ByteArray) : (us s).length = ln s := by
 unfold us ln; rw [uL_length, Go.Lib.size_eq]
theorem us_lt (s : ByteArray) : ∀ u ∈ us s, u < 65536 := uL_lt _
theorem un_eq (s : ByteArray) (i : Nat) (h : 2 * i + 1 < s.size) : un s i = (s[2 * i]'(by omega)).toNat * 256 + (s[2 * i + 1]'h).toNat := by
 have := uL_get s.data.toList i (by rw [← Go.Lib.size_eq]; exact h)
 unfold un us
 rw [List.getD_eq_getElem?_getD, this]
 rfl
theorem un_lt (s : ByteArray) (i : Nat) : un s i < 65536 := by
 unfold un
 rw [List.getD_eq_getElem?_getD]
 cases h : (us s)[i]? with
 | none => simp
 | some u => exact us_lt s u (List.mem_of_getElem? h)
theorem us_getElem (s : ByteArray) (i : Nat) (h : i < (us s).length) : (us s)[i] = un s i := by
 unfold un; rw [List.getD_eq_getElem?_getD, List.getElem?_eq_getElem h]; rfl
theorem us_take_succ (s : ByteArray) (i : Nat) (h : i < ln s) : (us s).take (i + 1) = (us s).take i ++ [un s i] := by
 have h' : i < (us s).length := by rw [us_length]; exact h
 rw [List.take_succ_eq_append_getElem h', us_getElem]
theorem us_take_all (s : ByteArray) : (us s).take (ln s) = us s := List.take_of_length_le (by rw [us_length]; exact Nat.le_refl _)
end Go.Proofs.YtfcpkdafkmohkaaGreatDoor
namespace Go.Proofs.YtfcpkdafkmohkaaGreatDoor
open Go.RowKit
abbrev Bld (B : Nat) (l : List UInt8) (w : World) : Prop := Lib.IsBuilderF 97 5 B B (Lib.byteCells l) w
theorem bld_lt {B : Nat} {l : List UInt8} {w : World} (h : Bld B l w) : B < w.heap.size := by
 rcases h with h | h <;> exact Lib.BuilderAtF.lt h
theorem alloc_new (w : World) (o : Obj) : (w.alloc o).heap[w.heap.size]? = some o := by
 show (w.heap.push o)[w.heap.size]? = _
 rw [Array.getElem?_push, if_pos rfl]
theorem ln_int (s : ByteArray) : (s.size : Int) / 2 = (ln s : Int) := by unfold ln; omega
theorem len_any (s : ByteArray) (w : World) (hs : s.size ≤ maxLen) : Cq 128 #[.string s] (.int .i64 (ln s)) w := by
 unfold maxLen at hs
 have hm : (s.size : Int) ≤ 9223372036854775807 := by omega
 go_enter Tryz.func128, Tryz.ntmps128
 go_wp2
 go_ret
 exact ⟨by rw [← ln_int]; rfl, rfl⟩
theorem or_u16 (a b : Nat) (ha : a < 256) (hb : b < 256) : bits BinOp.or IntKind.u16 ((a : Int) * 256) (b : Int) = ((a * 256 + b : Nat) : Int) := by
 have e : ((a : Int) * 256) = ((a * 256 : Nat) : Int) := by omega
 rw [e, u16_or_nat _ _ (by omega) (by omega)]
 have := Nat.two_pow_add_eq_or_of_lt (i := 8) (b := b) (by omega) a
 rw [show a * 256 = 2 ^ 8 * a by omega, ← this]
theorem at_value (s : ByteArray) (i : Nat) (h0 : 2 * i < s.size) (h1 : 2 * i + 1 < s.size) :
  bits BinOp.or IntKind.u16 (IntKind.u16.wrap (IntKind.u16.wrap ((s[2 * i]'h0).toNat : Int) * 256)) (IntKind.u16.wrap ((s[2 * i + 1]'h1).toNat : Int)) = (un s i : Int) := by
 have c0 := (s[2 * i]'h0).toNat_lt
 have c1 := (s[2 * i + 1]'h1).toNat_lt
 rw [IntWalk.u16_in ((s[2 * i]'h0).toNat : Int) (by omega), IntWalk.u16_in (((s[2 * i]'h0).toNat : Int) * 256) (by omega), IntWalk.u16_in _ (by omega)]
 rw [or_u16 _ _ c0 c1, un_eq s i h1]
set_option maxHeartbeats 400000 in
theorem at_any (s : ByteArray) (i : Nat) (w : World) (h : i < ln s) (hs : s.size ≤ maxLen) :
  Cp 140 #[.string s, .int .i64 i] w fun e w' => e = .returned (.int .u16 (un s i)) ∧ ∃ n, w' = w.drewN n := by
 unfold maxLen at hs
 have hl := ln_le s
 have a0 : (0 : Int) ≤ 2 * (i : Int) := by omega
 have a1 : 2 * (i : Int) < (s.size : Int) := by omega
 have a2 : (0 : Int) ≤ 2 * (i : Int) + 1 := by omega
 have a3 : 2 * (i : Int) + 1 < (s.size : Int) := by omega
 have b0 : IntKind.i64.wrap (2 * (i : Int)) = 2 * (i : Int) := IntWalk.i64_in _ (by omega)
 have b1 : IntKind.i64.wrap (2 * (i : Int) + 1) = 2 * (i : Int) + 1 := IntWalk.i64_in _ (by omega)
 have b2 : (2 * (i : Int)).toNat = 2 * i := by omega
 have b3 : (2 * (i : Int) + 1).toNat = 2 * i + 1 := by omega
 have H := Lib.hid (at_value s i (by omega) (by omega))
 clear hl
 go_enter Tryz.func140, Tryz.ntmps140
 go_wp2
 go_quiet (fail)
 go_wp2
 go_ret
 exact ⟨by rw [← H.out]; rfl, _, rfl⟩
theorem cells_two (l : List UInt8) (u : Nat) (hu : u < 65536) :
  Lib.byteCells (l ++ bL [u]) = (Lib.byteCells l ++ [Value.int .u8 ((u : Int) / 256)]) ++ [Value.int .u8 ((u : Int) % 256)] := by
 rw [Lib.byteCells_append, bL_one]
 simp [Lib.byteCells]
 omega
theorem writeUnit_any (B : Nat) (l : List UInt8) (u : Nat) (hu : u < 65536) (w : World) (h : Bld B l w) (hlen : l.length + 2 ≤ 140737488355328) (hBw : B ≤ w.heap.size) :
  Cp 98 #[.pointer (some ⟨B, 0, none⟩), .int .u16 u] w fun e w' => e = .returned (.tuple #[]) ∧ Bld B (l ++ bL [u]) w' ∧ Below B w w' := by
 have h1 : (Lib.byteCells l).length + 1 ≤ 140737488355328 := by rw [Lib.byteCells_length]; omega
 have h2 : ((Lib.byteCells l) ++ [Value.int .u8 ((u : Int) / 256)]).length + 1 ≤ 140737488355328 := by rw [List.length_append, Lib.byteCells_length]; simp; omega
 go_enter Tryz.func98, Tryz.ntmps98
 go_wp2_with fail
 refine (Tryz.Builder_WriteByte_k B B _ _ _ h h1 hBw).mono ?_
 rintro e w1 ⟨rfl, hb1, bl1, _⟩
 have hBw1 := Nat.le_trans hBw bl1.size
 go_wp2_with fail
 refine (Tryz.Builder_WriteByte_k B B _ _ _ (Or.inr hb1) h2 hBw1).mono ?_
 rintro e w2 ⟨rfl, hb2, bl2, _⟩
 go_wp2
 go_end0
 refine ⟨rfl, ?_, bl1.trans bl2⟩
 rw [Bld, cells_two l u hu]
 exact Or.inr hb2
end Go.Proofs.YtfcpkdafkmohkaaGreatDoor
namespace Go.Proofs.YtfcpkdafkmohkaaGreatDoor
open Go.RowKit
abbrev Own (B : Nat) (l : List UInt8) (v : Value) (w : World) : Prop := w.ownsRow B 5 1 v l.length (Lib.byteCells l)
theorem info5 : (Tryz.prog.info? 5).map (fun i => (i.zero, i.size, i.bytes)) = some (some (.int .u8 0), 1, 1) := by kernel_rfl
theorem and_u16 (u : Nat) (hu : u < 65536) : bits BinOp.and IntKind.u16 (u : Int) 255 % 256 = (u : Int) % 256 := by
 have := u16_and_nat u 255 hu (by omega)
 rw [show (255 : Int) = ((255 : Nat) : Int) from rfl, this]
 have h2 := Nat.and_two_pow_sub_one_eq_mod u 8
 rw [show (255 : Nat) = 2 ^ 8 - 1 from rfl, h2]
 omega
theorem Own.nil (B : Nat) (w : World) : Own B [] (.slice none 0 0) w := World.ownsRow_nil _ _ _ _
set_option maxHeartbeats 400000 in
theorem put_any (B : Nat) (l : List UInt8) (v : Value) (u : Nat) (hu : u < 65536) (w : World) (h : Own B l v w) (hlen : l.length + 2 ≤ 140737488355328) (hBw : B ≤ w.heap.size) :
  Cp 92 #[v, .int .u16 u] w fun e w' => ∃ v', e = .returned v' ∧ Own B (l ++ bL [u]) v' w' ∧ Below B w w' := by
 obtain ⟨i0, hi, hz0, hz1, hz2⟩ := info_parts info5
 have hA := and_u16 u hu
 go_enter Tryz.func92, Tryz.ntmps92
 go_wp2_with (at_builtin; refine wpList_append_own _ rfl _ _ 85 rfl B 5 i0 (.int .u8 0) 1 1 Tryz.underlying85 hi hz0 hz1 hz2 rfl (by decide) v l.length (Lib.byteCells l) rfl (h.alloc _) ⟨w.heap.size, 0, none⟩ 2 2 [.int .u8 ((u : Int) / 256), .int .u8 ((u : Int) % 256)] rfl rfl ?c1 ?c2 ?c3 ?c4 ?c5 ?_)
 case c1 => exact cell_two_new _ _ _ _
 case c2 => simp [Value.oneCell']
 case c3 => unfold maxLen; omega
 case c4 => omega
 case c5 => simp; omega
 intro v' w1 hown hg _
 go_wp2
 go_ret
 refine ⟨v', rfl, ?_, ((Below.refl B w).alloc hBw _).grown hg (by simp; omega) (fun k hk => (h.lt k hk).1)⟩
 rw [Own, cells_two l u hu]
 simpa [bL_one] using hown
end Go.Proofs.YtfcpkdafkmohkaaGreatDoor
namespace Go.Proofs.YtfcpkdafkmohkaaGreatDoor
open Go.RowKit
def spB (u : Int) : Bool := u == 9 || u == 11 || u == 12 || u == 32 || u == 160 || u == 5760 || u == 6158 || u == 8239 || u == 8287 || u == 12288 || u == 65279 || (decide (8192 ≤ u) && decide (u ≤ 8202))
def enB (u : Int) : Bool := u == 10 || u == 13 || u == 8232 || u == 8233
def blB (u : Int) : Bool := spB u || enB u
set_option maxHeartbeats 1000000 in
theorem space_any (u : Int) (w : World) : Cq 147 #[.int .u16 u] (.bool (spB u)) w := by
 go_enter Tryz.func147, Tryz.ntmps147
 go_wp2
 all_goals go_ret
 all_goals exact ⟨by simp [spB, *] <;> omega, rfl⟩
set_option maxHeartbeats 1000000 in
theorem ends_any (u : Int) (w : World) : Cq 148 #[.int .u16 u] (.bool (enB u)) w := by
 go_enter Tryz.func148, Tryz.ntmps148
 go_wp2
 all_goals go_ret
 all_goals exact ⟨by simp [enB, *], rfl⟩
set_option maxHeartbeats 1000000 in
theorem blank_any (u : Int) (w : World) : Cq 139 #[.int .u16 u] (.bool (blB u)) w := by
 go_enter Tryz.func139, Tryz.ntmps139
 go_wp2_with (first | (go_at_call 147; refine (space_any _ _).mono ?_; rintro e w' ⟨rfl, rfl⟩) | (go_at_call 148; refine (ends_any _ _).mono ?_; rintro e w' ⟨rfl, rfl⟩))
 all_goals go_ret
 all_goals exact ⟨by simp [blB, *], rfl⟩
end Go.Proofs.YtfcpkdafkmohkaaGreatDoor
namespace Go.Proofs.YtfcpkdafkmohkaaGreatDoor
open Go.RowKit
theorem foldl_push (ns : List UInt8) (s : ByteArray) : (ns.map fun b => (b.toNat : Int)).foldl (fun r n => r.push (UInt8.ofNat n.toNat)) s = ⟨s.data ++ ns.toArray⟩ := by
 induction ns generalizing s with
 | nil => simp
 | cons b r ih =>
  simp only [List.map_cons, List.foldl_cons, ih]
  apply ByteArray.ext
  simp [ByteArray.push]
set_option maxRecDepth 100000 in
theorem own_string {B : Nat} {l : List UInt8} {v : Value} {w : World} (h : Own B l v w) : (convert 85 9 v).run Tryz.prog w = .ok (.string ⟨l.toArray⟩) w := by
 rcases h.2 with ⟨rfl, hn⟩ | ⟨g, cap, cur, rfl, hB, hg, hcap, hmax, hcur, htk⟩
 ·have : l = [] := List.eq_nil_of_length_eq_zero hn
  subst this
  rfl
 ·have hc := h.cells (g := g) rfl
  rw [run_convert_bytes_string w 85 9 5 _ _ _ Tryz.underlying85 Tryz.underlying5 Tryz.underlying9]
  have hl := run_loadCells_list (P := Tryz.prog) w ⟨g, 0, none⟩ (Lib.byteCells l) hc
  rw [Lib.byteCells_length] at hl
  rw [run_bytesToString w ⟨g, 0, none⟩ l.length cap (l.map fun b => (b.toNat : Int)) (by rw [hl]; simp [Lib.byteCells, Function.comp_def])]
  rw [foldl_push]
  simp
end Go.Proofs.YtfcpkdafkmohkaaGreatDoor
namespace Go.Proofs.YtfcpkdafkmohkaaGreatDoor
open Go.RowKit
def wdL (s : ByteArray) : List Nat := s.data.toList.map fun b => b.toNat
theorem wdL_length (s : ByteArray) : (wdL s).length = s.size := by rw [wdL, List.length_map, ← Lib.size_eq]
theorem wdL_succ (s : ByteArray) (k : Nat) (h : k < s.size) : (wdL s).take (k + 1) = (wdL s).take k ++ [(s[k]'h).toNat] := by
 have h' : k < (wdL s).length := by rw [wdL_length]; exact h
 rw [List.take_succ_eq_append_getElem h']
 simp [wdL]; rfl
theorem wdL_all (s : ByteArray) : (wdL s).take s.size = wdL s := List.take_of_length_le (by rw [wdL_length]; exact Nat.le_refl _)
theorem take_len {α : Type} (l : List α) (k : Nat) : (l.take k).length ≤ k := List.length_take_le _ _
set_option maxRecDepth 100000 in
set_option maxHeartbeats 1000000 in
theorem wide_any (s : ByteArray) (w : World) (hs : s.size ≤ 35184372088832) :
  Ct 41 #[.string s] (.string ⟨(bL (wdL s)).toArray⟩) w := by
 have hm : (s.size : Int) ≤ 35184372088832 := by omega
 have HS := Lib.hid hs
 clear hs
 have hg : Cp 97 #[.pointer (some ⟨w.heap.size, 0, none⟩), .int .i64 (2 * (s.size : Int))] (w.alloc (.cells #[.pointer none, .slice none 0 0] 97)) fun e w' => e = .returned (.tuple #[]) ∧ (Lib.BuilderAt 97 5 w.heap.size w.heap.size (.pointer (some ⟨w.heap.size, 0, none⟩)) [] w' ∧ Below w.heap.size (w.alloc (.cells #[.pointer none, .slice none 0 0] 97)) w') :=
  Tryz.Builder_Grow_fresh w.heap.size w.heap.size (2 * s.size) _ (Nat.le_refl _) (alloc_new w _) (by simp) (by have := HS.out; omega)
 go_enter Tryz.func41, Tryz.ntmps41
 go_wp2_with fail
 refine hg.mono ?_
 rintro e w1 ⟨rfl, hb1, bl1⟩
 have hbl : Below w.heap.size w w1 := ((Below.refl w.heap.size w).alloc (Nat.le_refl _) _).trans bl1
 clear hg
 go_wp2
 go_loopw [11] (fun i wr => ∃ k : Nat, i = .int .i64 k ∧ k ≤ s.size ∧ Bld w.heap.size (bL ((wdL s).take k)) wr ∧ Below w.heap.size w wr) (fun i _ => s.size - (intOf i).toNat)
 case atStart => exact ⟨0, rfl, Nat.zero_le _, Lib.IsBuilderF.of (.inr hb1), hbl⟩
 case round =>
  obtain ⟨k, rfl, hk, hI, hbw⟩ := hrel
  have hsz := bld_lt hI
  by_cases hlt : k < s.size
  ·have hl := take_len (wdL s) k
   have hu := (s[k]'hlt).toNat_lt
   have hr := fun W h hb => writeUnit_any w.heap.size (bL ((wdL s).take k)) (s[k]'hlt).toNat (by omega) W h (by rw [bL_length]; have := HS.out; omega) hb
   have HW := Lib.hid (show IntKind.u16.wrap (((s[k]'hlt).toNat : Nat) : Int) = ((s[k]'hlt).toNat : Int) from IntWalk.u16_in _ (by omega))
   have HG := Lib.hid (wdL_succ s k hlt)
   clear hl hu
   go_wp2_with fail
   rw [HW.out]
   refine (hr _ hI (by omega)).mono ?_
   rintro e w2 ⟨rfl, hI2, hb2⟩
   go_wp2
   go_roundw
   case rel => exact ⟨k + 1, by go_num, by omega, by rw [HG.out, bL_append]; exact hI2, hbw.trans hb2⟩
   case measure => simp [intOf]; omega
  ·have hS := Tryz.Builder_String_any_k w.heap.size w.heap.size _ wr hI (by omega)
   have HZ := Lib.hid (show (wdL s).take k = wdL s by rw [show k = s.size by omega]; exact wdL_all s)
   go_wp2_with (go_at_call 99; refine hS.mono ?_; rintro e w2 ⟨rfl, _, hb2, _⟩)
   go_ret
   rw [HZ.out]
   exact ⟨rfl, hbw.trans hb2⟩
set_option maxRecDepth 100000 in
set_option maxHeartbeats 1000000 in
theorem rwide_any (s : ByteArray) (w : World) (hs : s.size ≤ 35184372088832) :
  Ct 38 #[.string s] (.string ⟨(bL (wdL s)).toArray⟩) w := by
 have hm : (s.size : Int) ≤ 35184372088832 := by omega
 have HS := Lib.hid hs
 clear hs
 go_enter Tryz.func38, Tryz.ntmps38
 go_wp2
 go_loopw [3, 4] (fun v i wr => ∃ k : Nat, i = .int .i64 k ∧ k ≤ s.size ∧ Own w.heap.size (bL ((wdL s).take k)) v wr ∧ Below w.heap.size w wr) (fun _ i _ => s.size - (intOf i).toNat)
 case atStart => exact ⟨0, rfl, Nat.zero_le _, Own.nil _ _, Below.refl _ _⟩
 case round =>
  obtain ⟨k, rfl, hk, hI, hbw⟩ := hrel
  by_cases hlt : k < s.size
  ·have hl := take_len (wdL s) k
   have hu := (s[k]'hlt).toNat_lt
   have hr := fun W v h hb => put_any w.heap.size (bL ((wdL s).take k)) v (s[k]'hlt).toNat (by omega) W h (by rw [bL_length]; have := HS.out; omega) hb
   have HW := Lib.hid (show IntKind.u16.wrap (((s[k]'hlt).toNat : Nat) : Int) = ((s[k]'hlt).toNat : Int) from IntWalk.u16_in _ (by omega))
   have HG := Lib.hid (wdL_succ s k hlt)
   clear hl hu
   go_wp2_with fail
   rw [HW.out]
   refine (hr _ _ hI hbw.size).mono ?_
   rintro e w2 ⟨v2, rfl, hI2, hb2⟩
   go_wp2
   go_roundw
   case rel => exact ⟨k + 1, by go_num, by omega, by rw [HG.out, bL_append]; exact hI2, hbw.trans hb2⟩
   case measure => simp [intOf]; omega
  ·have HZ := Lib.hid (show (wdL s).take k = wdL s by rw [show k = s.size by omega]; exact wdL_all s)
   have hcv := own_string hI
   go_wp2
   go_ret
   rw [HZ.out]
   exact ⟨rfl, hbw⟩
end Go.Proofs.YtfcpkdafkmohkaaGreatDoor
namespace Go.Proofs.YtfcpkdafkmohkaaGreatDoor
open Go.RowKit
theorem info_u16 : (Tryz.prog.info? 87).map (fun i => (i.zero, i.size, i.bytes)) = some (some (.int .u16 0), 1, 2) := by kernel_rfl
theorem row_drewN {w : World} {b : Nat} {t : TypeId} {n : Nat} {f : Nat → Value} (h : w.rowIs b t n f) (m : Nat) : (w.drewN m).rowIs b t n f := h
set_option maxRecDepth 100000 in
set_option maxHeartbeats 1000000 in
theorem units_any (s : ByteArray) (w : World) (hs : s.size ≤ 140737488355328) :
  Cp 129 #[.string s] w fun e w' => e = .returned (.slice (some ⟨w.heap.size, 0, none⟩) (ln s) (ln s)) ∧ w'.rowIs w.heap.size 87 (ln s) (fun j => .int .u16 (un s j : Nat)) ∧ Below w.heap.size w w' := by
 have hl := ln_le s
 have hs63 : s.size ≤ maxLen := by unfold maxLen; omega
 have hm : ((ln s : Nat) : Int) ≤ 70368744177664 := by omega
 have hmk := run_make_row' (P := Tryz.prog) 124 87 (.int .u16 0) 2 Tryz.underlying124 info_u16 rfl .i64 .i64 (ln s) (by omega) (by omega) w
 have hmade := World.rowIs_made w (.int .u16 0) (ln s) 87
 have H63 := Lib.hid hs63
 have c1 := fun W => len_any s W H63.out
 clear hs hl hs63
 have hr0 : (w.alloc (.cells (madeCells #[.int .u16 0] (ln s)) 87)).rowIs w.heap.size 87 (ln s) (fun j => .int .u16 ((if j < 0 then un s j else 0 : Nat) : Int)) := hmade.congr (fun j _ => by simp)
 clear hmade
 go_enter Tryz.func129, Tryz.ntmps129
 go_wp2_with (go_at_call 128; refine (c1 _).mono ?_; rintro e w' ⟨rfl, rfl⟩)
 clear hmk
 go_loopw [10] (fun i wr => ∃ k : Nat, i = .int .i64 k ∧ k ≤ ln s ∧ wr.rowIs w.heap.size 87 (ln s) (fun j => .int .u16 ((if j < k then un s j else 0 : Nat) : Int)) ∧ Below w.heap.size w wr) (fun i _ => ln s - (intOf i).toNat)
 case atStart => exact ⟨0, rfl, Nat.zero_le _, hr0, (Below.refl _ _).alloc (Nat.le_refl _) _⟩
 case round =>
  obtain ⟨k, rfl, hk, hI, hbw⟩ := hrel
  by_cases hlt : k < ln s
  ·have hcell : wr.cell? ⟨w.heap.size, k, none⟩ = some (.int .u16 0) := by
    have := hI.cell hlt
    simpa using this
   have hfz := hI.frozen k
   have c2 := fun W => at_any s k W hlt H63.out
   have hI2 := hI.set k (.int .u16 (un s k : Nat))
   have hI3 : (wr.setCell ⟨w.heap.size, k, none⟩ (.int .u16 (un s k : Nat))).rowIs w.heap.size 87 (ln s) (fun j => .int .u16 ((if j < k + 1 then un s j else 0 : Nat) : Int)) := by
    refine hI2.congr fun j hj => ?_
    by_cases h1 : j = k
    ·subst h1; simp
    ·by_cases h2 : j < k
     ·rw [if_neg h1, if_pos h2, if_pos (by omega)]
     ·rw [if_neg h1, if_neg h2, if_neg (by omega)]
   have HI := Lib.hid hI3
   clear hI hI2 hI3
   go_wp2_with fail
   refine (c2 _).mono ?_
   rintro e w' ⟨rfl, n, rfl⟩
   go_wp2
   go_roundw
   case rel => exact ⟨k + 1, by go_num, by omega, row_drewN HI.out n, below_drewN' (hbw.setCell (Nat.le_refl _) _) n⟩
   case measure => simp [intOf]; omega
  ·have HI := Lib.hid (show wr.rowIs w.heap.size 87 (ln s) (fun j => .int .u16 (un s j : Nat)) from hI.congr fun j hj => by rw [if_pos (by omega)])
   clear hI
   go_wp2
   go_ret
   exact ⟨rfl, HI.out, hbw⟩
end Go.Proofs.YtfcpkdafkmohkaaGreatDoor
namespace Go.Proofs.YtfcpkdafkmohkaaGreatDoor
open Go.RowKit
end Go.Proofs.YtfcpkdafkmohkaaGreatDoor
namespace Go.Proofs.YtfcpkdafkmohkaaGreatDoor
open Go.RowKit
def slS (s : ByteArray) (f t : Int) : ByteArray := if max f 0 < min t (ln s) then s.extract (2 * (max f 0).toNat) (2 * (min t (ln s)).toNat) else { data := #[] }
theorem slS_mid (s : ByteArray) (f t : Int) (h0 : 0 ≤ f) (h1 : f < t) (h2 : t ≤ ln s) : slS s f t = s.extract (2 * f.toNat) (2 * t.toNat) := by
 unfold slS
 rw [Int.max_eq_left h0, Int.min_eq_left h2, if_pos h1]
set_option maxHeartbeats 1000000 in
theorem slice_any (s : ByteArray) (f t : Int) (w : World) (hs : s.size ≤ maxLen) :
  Cq 141 #[.string s, .int .i64 f, .int .i64 t] (.string (slS s f t)) w := by
 have hl := ln_le s
 have hm : (s.size : Int) ≤ 9223372036854775807 := by unfold maxLen at hs; omega
 have c1 := fun W => len_any s W hs
 have hsl : slS s f t = if max f 0 < min t (ln s) then s.extract (2 * (max f 0).toNat) (2 * (min t (ln s)).toNat) else { data := #[] } := rfl
 have hm1 : 0 ≤ max f 0 := by omega
 have hn1 : min t (ln s) ≤ ln s := by omega
 have hl2 : 2 * ((ln s : Nat) : Int) ≤ (s.size : Int) := by omega
 obtain ⟨m, hm0⟩ : ∃ m : Int, max f 0 = m := ⟨_, rfl⟩
 obtain ⟨n, hn0⟩ : ∃ n : Int, min t (ln s) = n := ⟨_, rfl⟩
 rw [hm0, hn0] at hsl
 rw [hm0] at hm1
 rw [hn0] at hn1
 by_cases h : m < n
 ·rw [if_pos h] at hsl
  have HS := Lib.hid hsl
  have k1 : 2 * m ≤ 2 * n := by omega
  have k2 : 2 * n ≤ (s.size : Int) := by omega
  have k3 : 0 ≤ 2 * m := by omega
  have k4 : 0 ≤ 2 * n := by omega
  have e1 : (2 * m).toNat = 2 * m.toNat := by omega
  have e2 : (2 * n).toNat = 2 * n.toNat := by omega
  clear hsl hl hs hl2 hn1
  go_enter Tryz.func141, Tryz.ntmps141
  go_wp2_with (go_at_call 128; refine (c1 _).mono ?_; rintro e w' ⟨rfl, rfl⟩)
  go_ret
  exact ⟨by rw [HS.out]; rfl, rfl⟩
 ·rw [if_neg h] at hsl
  have HS := Lib.hid hsl
  clear hsl hl hs hl2 hn1
  go_enter Tryz.func141, Tryz.ntmps141
  go_wp2_with (go_at_call 128; refine (c1 _).mono ?_; rintro e w' ⟨rfl, rfl⟩)
  go_ret
  exact ⟨by rw [HS.out]; rfl, rfl⟩
end Go.Proofs.YtfcpkdafkmohkaaGreatDoor
namespace Go.Proofs.YtfcpkdafkmohkaaGreatDoor
open Go.RowKit
def blU (s : ByteArray) (i : Nat) : Bool := blB ((un s i : Nat) : Int)
def tF (s : ByteArray) : Nat → Nat → Nat
 | 0, i => i
 | f + 1, i => if i < ln s ∧ blU s i = true then tF s f (i + 1) else i
def tT (s : ByteArray) (F : Nat) : Nat → Nat → Nat
 | 0, t => t
 | f + 1, t => if F < t ∧ blU s (t - 1) = true then tT s F f (t - 1) else t
def frS (s : ByteArray) : Nat := tF s (ln s) 0
def toS (s : ByteArray) : Nat := tT s (frS s) (ln s) (ln s)
def trimS (s : ByteArray) : ByteArray := slS s (frS s) (toS s)
theorem tF_go (s : ByteArray) (f i : Nat) (h : i < ln s) (hb : blU s i = true) : tF s (f + 1) i = tF s f (i + 1) := by simp [tF, h, hb]
theorem tF_end (s : ByteArray) (f i : Nat) (h : ¬ (i < ln s ∧ blU s i = true)) : tF s f i = i := by
 cases f with
 | zero => rfl
 | succ f => rw [tF, if_neg h]
theorem tT_go (s : ByteArray) (F f t : Nat) (h : F < t + 1) (hb : blU s t = true) : tT s F (f + 1) (t + 1) = tT s F f t := by simp [tT, h, hb]
theorem tT_end (s : ByteArray) (F f t : Nat) (h : ¬ (F < t ∧ blU s (t - 1) = true)) : tT s F f t = t := by
 cases f with
 | zero => rfl
 | succ f => rw [tT, if_neg h]
theorem blankU_any (s : ByteArray) (i : Nat) (w : World) (b : Bool) (hb : blU s i = b) : Cq 139 #[.int .u16 (un s i : Nat)] (.bool b) w := by
 refine (blank_any _ w).mono ?_
 rintro e w' ⟨rfl, rfl⟩
 exact ⟨by rw [← hb]; rfl, rfl⟩
set_option maxRecDepth 100000 in
set_option maxHeartbeats 2000000 in
theorem trim_any (s : ByteArray) (w : World) (hs : s.size ≤ maxLen) :
  Cp 75 #[.string s] w fun e w' => e = .returned (.string (trimS s)) ∧ ∃ n, w' = w.drewN n := by
 have hl := ln_le s
 have hm : ((ln s : Nat) : Int) ≤ 4611686018427387903 := by unfold maxLen at hs; omega
 have H63 := Lib.hid hs
 have c1 := fun W => len_any s W H63.out
 clear hs hl
 go_enter Tryz.func75, Tryz.ntmps75
 go_wp2_with (go_at_call 128; refine (c1 _).mono ?_; rintro e w' ⟨rfl, rfl⟩)
 go_loopw [3] (fun i wr => ∃ k f : Nat, i = .int .i64 k ∧ k ≤ ln s ∧ tF s f k = frS s ∧ ln s ≤ k + f ∧ ∃ n, wr = w.drewN n) (fun i _ => ln s - (intOf i).toNat)
 case atStart => exact ⟨0, ln s, rfl, Nat.zero_le _, rfl, by omega, 0, rfl⟩
 case round =>
  obtain ⟨k, fuel, rfl, hk, hF, hfu, n, rfl⟩ := hrel
  have HF := Lib.hid hF
  clear hF
  by_cases hc : k < ln s ∧ blU s k = true
  ·obtain ⟨hlt, hb⟩ := hc
   obtain ⟨f, rfl⟩ : ∃ f, fuel = f + 1 := ⟨fuel - 1, by omega⟩
   have HG := Lib.hid (show tF s f (k + 1) = frS s by rw [← HF.out, tF_go s f k hlt hb])
   have c2 := fun W => at_any s k W hlt H63.out
   have c3 := fun W => blankU_any s k W true hb
   have hlt' : (k : Int) < (ln s : Int) := by omega
   clear hb HF
   go_wp2_with (first | (go_at_call 140; refine (c2 _).mono ?_; rintro e w' ⟨rfl, n2, rfl⟩) | (go_at_call 139; refine (c3 _).mono ?_; rintro e w' ⟨rfl, rfl⟩))
   go_roundw
   case rel => exact ⟨k + 1, f, by go_num, by omega, HG.out, by omega, _, rfl⟩
   case measure => simp [intOf]; omega
  ·have HK := Lib.hid (show frS s = k by rw [← HF.out, tF_end s fuel k hc])
   have hor : (¬ ((k : Int) < (ln s : Int))) ∨ ((k : Int) < (ln s : Int) ∧ blU s k = false ∧ k < ln s) := by
    by_cases h : k < ln s
    ·right; refine ⟨by omega, ?_, h⟩
     cases hb : blU s k
     ·rfl
     ·exact absurd ⟨h, hb⟩ hc
    ·left; omega
   have H1 := Lib.hid (fun W (h : k < ln s) => at_any s k W h H63.out)
   have H2 := Lib.hid (fun W (h : blU s k = false) => blankU_any s k W false h)
   clear hc HF
   rcases hor with h1 | ⟨h1, h2, h3⟩
   all_goals
    try have c2 := fun W => H1.out W h3
    try have c3 := fun W => H2.out W h2
    try clear h2
    go_wp2_with (first | (go_at_call 140; refine (c2 _).mono ?_; rintro e w' ⟨rfl, n2, rfl⟩) | (go_at_call 139; refine (c3 _).mono ?_; rintro e w' ⟨rfl, rfl⟩))
    go_loopw [4] (fun i wr => ∃ t f : Nat, i = .int .i64 t ∧ t ≤ ln s ∧ tT s k f t = tT s k (ln s) (ln s) ∧ t ≤ f ∧ ∃ n, wr = w.drewN n) (fun i _ => (intOf i).toNat)
    case atStart => exact ⟨ln s, ln s, rfl, by omega, rfl, by omega, _, rfl⟩
    case round =>
     obtain ⟨t, fu, rfl, ht, hT, hfu2, n3, rfl⟩ := hrel
     have HT := Lib.hid hT
     clear hT
     by_cases hc2 : k < t ∧ blU s (t - 1) = true
     ·obtain ⟨hlt2, hb2⟩ := hc2
      obtain ⟨t, rfl⟩ : ∃ t', t = t' + 1 := ⟨t - 1, by omega⟩
      obtain ⟨f2, rfl⟩ : ∃ f', fu = f' + 1 := ⟨fu - 1, by omega⟩
      have hb3 : blU s t = true := hb2
      have HG2 := Lib.hid (show tT s k f2 t = tT s k (ln s) (ln s) by rw [← HT.out, tT_go s k f2 t hlt2 hb3])
      have c4 := fun W => at_any s t W (by omega) H63.out
      have c5 := fun W => blankU_any s t W true hb3
      have g1 : (k : Int) < (t : Int) + 1 := by omega
      clear hb2 hb3 HT
      go_wp2_with (first | (go_at_call 140; refine (c4 _).mono ?_; rintro e w' ⟨rfl, n4, rfl⟩) | (go_at_call 139; refine (c5 _).mono ?_; rintro e w' ⟨rfl, rfl⟩))
      go_roundw
      case rel => exact ⟨t, f2, rfl, by omega, HG2.out, by omega, _, rfl⟩
      case measure => simp [intOf]
     ·have HK2 := Lib.hid (show toS s = t by unfold toS; rw [HK.out, ← HT.out, tT_end s k fu t hc2])
      have hor2 : (¬ ((k : Int) < (t : Int))) ∨ ((k : Int) < (t : Int) ∧ blU s (t - 1) = false ∧ k < t) := by
       by_cases h : k < t
       ·right; refine ⟨by omega, ?_, h⟩
        cases hb : blU s (t - 1)
        ·rfl
        ·exact absurd ⟨h, hb⟩ hc2
       ·left; omega
      have hsl := fun W => slice_any s k t W H63.out
      have HR := Lib.hid (show trimS s = slS s k t by unfold trimS; rw [HK.out, HK2.out])
      clear hc2 HT
      rcases hor2 with g1 | ⟨g1, g2, g3⟩
      ·go_wp2_with (go_at_call 141; refine (hsl _).mono ?_; rintro e w' ⟨rfl, rfl⟩)
       go_ret
       exact ⟨by rw [HR.out]; rfl, _, rfl⟩
      ·obtain ⟨t, rfl⟩ : ∃ t', t = t' + 1 := ⟨t - 1, by omega⟩
       have c4 := fun W => at_any s t W (by omega) H63.out
       have c5 := fun W => blankU_any s t W false g2
       have g1' : (k : Int) < (t : Int) + 1 := by omega
       clear g2 g1
       go_wp2_with (first | (go_at_call 140; refine (c4 _).mono ?_; rintro e w' ⟨rfl, n4, rfl⟩) | (go_at_call 139; refine (c5 _).mono ?_; rintro e w' ⟨rfl, rfl⟩) | (go_at_call 141; refine (hsl _).mono ?_; rintro e w' ⟨rfl, rfl⟩))
       go_ret
       exact ⟨by rw [HR.out]; rfl, _, rfl⟩
end Go.Proofs.YtfcpkdafkmohkaaGreatDoor
namespace Go.Proofs.YtfcpkdafkmohkaaGreatDoor
open Go.RowKit
theorem bld_below {B : Nat} {l : List UInt8} {w w' : World} (h : Bld B l w) (hb : Below w.heap.size w w') : Bld B l w' := by
 have hg : w.grownBy w' none := ⟨hb.os, hb.tape, hb.output, hb.size, fun k hk _ => hb.block k hk⟩
 have key : ∀ p, Lib.BuilderAtF 97 5 B B p (Lib.byteCells l) w → Lib.BuilderAtF 97 5 B B p (Lib.byteCells l) w' := by
  intro p hA
  have hlt := Lib.BuilderAtF.lt hA
  obtain ⟨hB, v, hbk, hown, hne⟩ := hA
  exact ⟨hB, v, by rw [hb.block B hlt]; exact hbk, hown.kept hg (by cases v.ownBlock <;> simp), hne⟩
 rcases h with h | h
 ·exact .inl (key _ h)
 ·exact .inr (key _ h)
def nr0 (u : Nat) : Nat := if 127 < u then 0 else u
theorem nr0_lt (u : Nat) : nr0 u < 128 := by unfold nr0; split <;> omega
theorem row_others {w w' : World} {R B n : Nat} {f : Nat → Value} (h : w.rowIs R 87 n f) (ho : Lib.OthersKept 5 (some B) w w') (hR : R ≠ B) : w'.rowIs R 87 n f := by
 obtain ⟨c, hb, hn, hc⟩ := h
 refine ⟨c, ho R _ hb (by simpa using hR) (fun c' fz e => ?_), hn, hc⟩
 injection e with _ e2 _
 exact absurd e2 (by decide)
theorem cells_snoc (l : List UInt8) (u : Nat) (hu : u < 256) : Lib.byteCells l ++ [Value.int .u8 (u : Int)] = Lib.byteCells (l ++ [UInt8.ofNat u]) := by
 rw [Lib.byteCells_append]
 simp [Lib.byteCells]
 omega
set_option maxRecDepth 100000 in
set_option maxHeartbeats 1000000 in
theorem tnarrow_any (s : ByteArray) (w : World) (hs : s.size ≤ 140737488355328) :
  Ct 66 #[.string s] (.string (strOf (nrw 0 (us s)))) w := by
 have hl := ln_le s
 have hs63 : s.size ≤ maxLen := by unfold maxLen; omega
 have hm : ((ln s : Nat) : Int) ≤ 70368744177664 := by omega
 have H63 := Lib.hid hs63
 have C1 := Lib.hid (fun W => len_any s W H63.out)
 have C2 := Lib.hid (fun W => units_any s W hs)
 have HS := Lib.hid (show ln s ≤ 70368744177664 by omega)
 have hg : Cp 97 #[.pointer (some ⟨w.heap.size, 0, none⟩), .int .i64 (ln s : Nat)] (w.alloc (.cells #[.pointer none, .slice none 0 0] 97)) fun e w' => e = .returned (.tuple #[]) ∧ (Lib.BuilderAt 97 5 w.heap.size w.heap.size (.pointer (some ⟨w.heap.size, 0, none⟩)) [] w' ∧ Below w.heap.size (w.alloc (.cells #[.pointer none, .slice none 0 0] 97)) w') :=
  Tryz.Builder_Grow_fresh w.heap.size w.heap.size (ln s) _ (Nat.le_refl _) (alloc_new w _) (by simp) (by omega)
 have HG := Lib.hid hg
 clear hl hs hs63 hg
 go_enter Tryz.func66, Tryz.ntmps66
 go_wp2_with fail
 refine (C1.out _).mono ?_
 rintro e w' ⟨rfl, rfl⟩
 go_wp2_with fail
 refine HG.out.mono ?_
 rintro e w1 ⟨rfl, hb1, bl1⟩
 have hbl : Below w.heap.size w w1 := ((Below.refl w.heap.size w).alloc (Nat.le_refl _) _).trans bl1
 have I1 := Lib.hid (show Bld w.heap.size [] w1 from Lib.IsBuilderF.of (.inr hb1))
 have B1 := Lib.hid hbl
 clear hb1 bl1 hbl
 go_wp2_with fail
 refine (C2.out _).mono ?_
 rintro e w2 ⟨rfl, hr2, b2⟩
 have R2 := Lib.hid hr2
 have hlt1 := bld_lt I1.out
 have I2 := Lib.hid (bld_below I1.out b2)
 have B2 := Lib.hid (below_le B1.out b2)
 have HR := Lib.hid (show w1.heap.size ≠ w.heap.size by omega)
 obtain ⟨R, hR⟩ : ∃ R, w1.heap.size = R := ⟨_, rfl⟩
 rw [hR] at R2 HR ⊢
 clear hr2 b2 hlt1 hR
 go_wp2
 go_loopw [12] (fun i wr => ∃ k : Nat, i = .int .i64 k ∧ k ≤ ln s ∧ Hid (Bld w.heap.size ((((us s).take k).map nr0).map UInt8.ofNat) wr) ∧ Hid (wr.rowIs R 87 (ln s) (fun j => .int .u16 (un s j : Nat))) ∧ Hid (Below w.heap.size w wr)) (fun i _ => ln s - (intOf i).toNat)
 case atStart => exact ⟨0, rfl, Nat.zero_le _, I2, R2, B2⟩
 case round =>
  obtain ⟨k, rfl, hk, I3, R3, B3⟩ := hrel
  by_cases hlt : k < ln s
  ·have hcell : wr.cell? ⟨R, k, none⟩ = some (.int .u16 (un s k : Nat)) := R3.out.cell hlt
   have hul := un_lt s k
   have HST := Lib.hid (us_take_succ s k hlt)
   obtain ⟨u, hu⟩ : ∃ u, un s k = u := ⟨_, rfl⟩
   rw [hu] at hcell hul HST
   have hc1 := nr0_lt u
   have hlen : (Lib.byteCells ((((us s).take k).map nr0).map UInt8.ofNat)).length + 1 ≤ 140737488355328 := by
    rw [Lib.byteCells_length, List.length_map, List.length_map, List.length_take]
    have := HS.out
    omega
   have C4 := Lib.hid (fun c : Int => Tryz.Builder_WriteByte_k w.heap.size w.heap.size _ c wr I3.out hlen B3.out.size)
   have KEY := Lib.hid (show ∀ w', Lib.BuilderAtF 97 5 w.heap.size w.heap.size (.pointer (some ⟨w.heap.size, 0, none⟩)) (Lib.byteCells ((((us s).take k).map nr0).map UInt8.ofNat) ++ [.int .u8 (nr0 u : Nat)]) w' → Bld w.heap.size ((((us s).take (k + 1)).map nr0).map UInt8.ofNat) w' from fun w' h => by
    rw [cells_snoc _ _ (by omega)] at h
    rw [HST.out, List.map_append, List.map_append]
    exact Or.inr h)
   have a1 : (0 : Int) ≤ (k : Int) := by omega
   have a2 : (k : Int) < (ln s : Int) := by omega
   clear hlen
   by_cases hb : 127 < u
   ·have e0 : nr0 u = 0 := if_pos hb
    rw [e0] at KEY
    have t1 : decide ((127 : Int) < (u : Int)) = true := decide_eq_true (by omega)
    clear hu hul hc1 hb e0
    go_wp2_with fail
    refine (C4.out 0).mono ?_
    rintro e w3 ⟨rfl, hI, hb3, ho3⟩
    have I4 := Lib.hid (KEY.out _ hI)
    have R4 := Lib.hid (row_others R3.out ho3 HR.out)
    have B4 := Lib.hid (B3.out.trans hb3)
    clear hI hb3 ho3
    go_wp2
    exact ⟨⟨k + 1, by go_num, by omega, I4, R4, B4⟩, by simp [intOf]; omega⟩
   ·have e0 : nr0 u = u := if_neg hb
    rw [e0] at KEY
    have t1 : decide ((127 : Int) < (u : Int)) = false := decide_eq_false (by omega)
    have k1 : IntKind.u8.wrap (u : Int) = (u : Int) := IntWalk.u8_in _ (by omega)
    clear hu hul hc1 hb e0
    go_wp2_with fail
    refine (C4.out _).mono ?_
    rintro e w3 ⟨rfl, hI, hb3, ho3⟩
    have I4 := Lib.hid (KEY.out _ hI)
    have R4 := Lib.hid (row_others R3.out ho3 HR.out)
    have B4 := Lib.hid (B3.out.trans hb3)
    clear hI hb3 ho3
    go_wp2
    exact ⟨⟨k + 1, by go_num, by omega, I4, R4, B4⟩, by simp [intOf]; omega⟩
  ·obtain ⟨T, hT⟩ : ∃ T, (((us s).take k).map nr0).map UInt8.ofNat = T := ⟨_, rfl⟩
   have I5 := I3.out
   rw [hT] at I5
   have hS := Lib.hid (Tryz.Builder_String_any_k w.heap.size w.heap.size T wr I5 B3.out.size)
   have HZ := Lib.hid (show (⟨T.toArray⟩ : ByteArray) = strOf (nrw 0 (us s)) from by
    rw [← hT, show (us s).take k = us s by rw [show k = ln s by omega]; exact us_take_all s]
    rfl)
   clear hT I5 I3
   go_wp2_with (go_at_call 99; refine hS.out.mono ?_; rintro e w2 ⟨rfl, _, hb2, _⟩)
   go_ret
   exact ⟨by rw [← HZ.out]; rfl, B3.out.trans hb2⟩

end Go.Proofs.YtfcpkdafkmohkaaGreatDoor
namespace Go.Proofs.YtfcpkdafkmohkaaGreatDoor
open Go.RowKit
theorem uL_drop : ∀ (i : Nat) (l : List UInt8), uL (l.drop (2 * i)) = (uL l).drop i
 | 0, l => rfl
 | i + 1, [] => by simp [uL]
 | i + 1, [a] => by
  have : 2 * (i + 1) = 2 * i + 1 + 1 := by omega
  rw [this, List.drop_succ_cons, List.drop_nil]
  simp [uL]
 | i + 1, a :: b :: l => by
  have : 2 * (i + 1) = 2 * i + 1 + 1 := by omega
  rw [this, List.drop_succ_cons, List.drop_succ_cons, uL_drop i l, uL, List.drop_succ_cons]
theorem uL_take : ∀ (i : Nat) (l : List UInt8), uL (l.take (2 * i)) = (uL l).take i
 | 0, l => by simp [uL]
 | i + 1, [] => by simp [uL]
 | i + 1, [a] => by
  have : 2 * (i + 1) = 2 * i + 1 + 1 := by omega
  rw [this, List.take_succ_cons, List.take_nil]
  simp [uL]
 | i + 1, a :: b :: l => by
  have : 2 * (i + 1) = 2 * i + 1 + 1 := by omega
  rw [this, List.take_succ_cons, List.take_succ_cons, uL, uL_take i l, uL, List.take_succ_cons]
theorem us_part (s : ByteArray) (a b : Nat) : us (s.extract (2 * a) (2 * b)) = ((us s).drop a).take (b - a) := by
 unfold us
 rw [Lib.extract_data, show 2 * b - 2 * a = 2 * (b - a) by omega, uL_take, uL_drop]
theorem us_empty : us { data := #[] } = [] := rfl
theorem us_slS (s : ByteArray) (a b : Nat) (hb : b ≤ ln s) : us (slS s a b) = ((us s).drop a).take (b - a) := by
 rcases Nat.lt_or_ge a b with h | h
 ·rw [slS_mid s a b (by omega) (by omega) (by omega), Int.toNat_natCast, Int.toNat_natCast, us_part]
 ·have : slS s a b = { data := #[] } := by
   unfold slS
   rw [if_neg (by omega)]
  rw [this, us_empty, show b - a = 0 by omega, List.take_zero]
def blkN (u : Nat) : Bool := blB (u : Int)
def ahL (l : List Nat) : List Nat := l.dropWhile blkN
end Go.Proofs.YtfcpkdafkmohkaaGreatDoor
namespace Go.Proofs.YtfcpkdafkmohkaaGreatDoor
open Go.RowKit
set_option maxRecDepth 100000 in
theorem tnan_any (w : World) : Cq 77 #[] (.float .f64 nanW) w := by
 have h1 : (callFunc 120 #[.int .u64 9221120237041090560]).run Tryz.prog w = .ok (.value (.float .f64 9221120237041090560)) w := f64from_run 9221120237041090560 w
 go_enter Tryz.func77, Tryz.ntmps77
 go_wp2
 go_ret
 exact ⟨rfl, rfl⟩
theorem inf_split {u : List Nat} (h : infB u = true) : u = infL ++ u.drop 8 := by
 unfold infB at h
 obtain ⟨t, ht⟩ := List.isPrefixOf_iff_prefix.1 h
 rw [← ht, show (infL ++ t).drop 8 = t from rfl]
theorem inf_dec {u : List Nat} (h : infB u = true) : dB u = false := by
 rw [inf_split h]
 rfl
theorem inf_all {u : List Nat} : (infB u = true ∧ u.drop 8 = []) ↔ u = infL := by
 constructor
 ·rintro ⟨h1, h2⟩
  have := inf_split h1
  rw [h2, List.append_nil] at this
  exact this
 ·intro h; rw [h]; exact ⟨by decide, by decide⟩
theorem numW_nb (l : List Nat) : numW l = if l = [] then 0 else if hxB l = true then natV 16 (l.drop 2) else if nbB l = true ∧ nbR l = [] then nbV l else nanW := by
 unfold numW
 by_cases h0 : l = []
 ·rw [if_pos h0, if_pos h0]
 ·rw [if_neg h0, if_neg h0]
  by_cases h1 : hxB l = true
  ·rw [if_pos h1, if_pos h1]
  ·rw [if_neg h1, if_neg h1]
   unfold nbB nbR nbV
   cases hi : infB (unsg l)
   ·have hn : ¬ unsg l = infL := fun e => by rw [e] at hi; revert hi; decide
    rw [if_neg hn]
    simp only [Bool.false_or, Bool.false_eq_true, if_false]
    cases hd : dB (unsg l)
    ·simp
    ·simp
   ·have hd := inf_dec hi
    simp only [Bool.true_or, if_true, true_and, hd, Bool.false_eq_true, false_and, if_false]
    by_cases he : (unsg l).drop 8 = []
    ·rw [if_pos (inf_all.1 ⟨hi, he⟩), if_pos he]
    ·rw [if_neg (fun e => he (inf_all.2 e).2), if_neg he]
theorem trim_len (s : ByteArray) : (trimS s).size ≤ s.size := by
 unfold trimS slS
 split
 ·rw [ByteArray.size_extract]; omega
 ·exact Nat.zero_le _
theorem nrw_len (z : Nat) (l : List Nat) : (nrw z l).length = l.length := by unfold nrw; rw [List.length_map]
theorem nrw_size {s : ByteArray} (h : s.size ≤ 140737488355328) : (nrw 0 (us s)).length ≤ 140737488355328 := by
 rw [nrw_len, us_length]
 have := ln_le s
 omega
theorem em_str : (strOf []).toList.isEmpty = true := by rw [Lib.toList_data]; rfl
theorem em_iff (l : List Nat) : (strOf l).toList.isEmpty = decide (l = []) := by
 by_cases h : l = []
 ·rw [h, em_str]; rfl
 ·rw [(str_ne h).2, decide_eq_false h]
set_option maxRecDepth 100000 in
set_option maxHeartbeats 1000000 in
theorem tNumber_walk (s t l r : ByteArray) (H F : Nat) (c1 c2 c3 c4 : Bool) (w : World)
  (C1 : Hid (∀ W, Cp 75 #[.string s] W fun e w' => e = .returned (.string t) ∧ ∃ n, w' = W.drewN n))
  (C2 : Hid (∀ W, Ct 66 #[.string t] (.string l) W))
  (C3 : Hid (∀ W, Ct 67 #[.string l] (.tuple #[.float .f64 H, .bool c2]) W))
  (C4 : Hid (∀ W, Ct 76 #[.string l] (.tuple #[.float .f64 F, .string r, .bool c3]) W))
  (t1 : l.toList.isEmpty = c1) (t2 : r.toList.isEmpty = c4) :
  Ct 28 #[.string s] (.float .f64 (if c1 = true then 0 else if c2 = true then H else if c3 = true ∧ c4 = true then F else nanW : Nat)) w := by
 have C5 := Lib.hid (fun W => tnan_any W)
 cases c1
 ·cases c2
  ·cases c3
   ·simp only [Bool.false_eq_true, if_false, false_and]
    go_enter Tryz.func28, Tryz.ntmps28
    go_wp2_with fail
    refine (C1.out _).mono ?_
    rintro e w' ⟨rfl, n, rfl⟩
    go_wp2_with fail
    refine (C2.out _).mono ?_
    rintro e w1 ⟨rfl, b1⟩
    have B1 := Lib.hid (below_drewN' (Below.refl w.heap.size w) n |>.trans b1)
    clear b1
    go_wp2_with fail
    refine (C3.out _).mono ?_
    rintro e w2 ⟨rfl, b2⟩
    have B2 := Lib.hid (below_le B1.out b2)
    clear b2
    go_wp2_with fail
    refine (C4.out _).mono ?_
    rintro e w3 ⟨rfl, b3⟩
    have B3 := Lib.hid (below_le B2.out b3)
    clear b3
    go_wp2_with fail
    refine (C5.out _).mono ?_
    rintro e w' ⟨rfl, rfl⟩
    go_wp2
    go_ret
    exact ⟨rfl, B3.out⟩
   ·cases c4
    ·simp only [Bool.false_eq_true, if_false, and_false]
     go_enter Tryz.func28, Tryz.ntmps28
     go_wp2_with fail
     refine (C1.out _).mono ?_
     rintro e w' ⟨rfl, n, rfl⟩
     go_wp2_with fail
     refine (C2.out _).mono ?_
     rintro e w1 ⟨rfl, b1⟩
     have B1 := Lib.hid (below_drewN' (Below.refl w.heap.size w) n |>.trans b1)
     clear b1
     go_wp2_with fail
     refine (C3.out _).mono ?_
     rintro e w2 ⟨rfl, b2⟩
     have B2 := Lib.hid (below_le B1.out b2)
     clear b2
     go_wp2_with fail
     refine (C4.out _).mono ?_
     rintro e w3 ⟨rfl, b3⟩
     have B3 := Lib.hid (below_le B2.out b3)
     clear b3
     go_wp2_with fail
     refine (C5.out _).mono ?_
     rintro e w' ⟨rfl, rfl⟩
     go_wp2
     go_ret
     exact ⟨rfl, B3.out⟩
    ·simp only [Bool.false_eq_true, if_false, and_self, if_true]
     go_enter Tryz.func28, Tryz.ntmps28
     go_wp2_with fail
     refine (C1.out _).mono ?_
     rintro e w' ⟨rfl, n, rfl⟩
     go_wp2_with fail
     refine (C2.out _).mono ?_
     rintro e w1 ⟨rfl, b1⟩
     have B1 := Lib.hid (below_drewN' (Below.refl w.heap.size w) n |>.trans b1)
     clear b1
     go_wp2_with fail
     refine (C3.out _).mono ?_
     rintro e w2 ⟨rfl, b2⟩
     have B2 := Lib.hid (below_le B1.out b2)
     clear b2
     go_wp2_with fail
     refine (C4.out _).mono ?_
     rintro e w3 ⟨rfl, b3⟩
     have B3 := Lib.hid (below_le B2.out b3)
     clear b3
     go_wp2
     go_ret
     exact ⟨rfl, B3.out⟩
  ·simp only [Bool.false_eq_true, if_false, if_true]
   go_enter Tryz.func28, Tryz.ntmps28
   go_wp2_with fail
   refine (C1.out _).mono ?_
   rintro e w' ⟨rfl, n, rfl⟩
   go_wp2_with fail
   refine (C2.out _).mono ?_
   rintro e w1 ⟨rfl, b1⟩
   have B1 := Lib.hid (below_drewN' (Below.refl w.heap.size w) n |>.trans b1)
   clear b1
   go_wp2_with fail
   refine (C3.out _).mono ?_
   rintro e w2 ⟨rfl, b2⟩
   have B2 := Lib.hid (below_le B1.out b2)
   clear b2
   go_wp2
   go_ret
   exact ⟨rfl, B2.out⟩
 ·simp only [if_true]
  go_enter Tryz.func28, Tryz.ntmps28
  go_wp2_with fail
  refine (C1.out _).mono ?_
  rintro e w' ⟨rfl, n, rfl⟩
  go_wp2_with fail
  refine (C2.out _).mono ?_
  rintro e w1 ⟨rfl, b1⟩
  have B1 := Lib.hid (below_drewN' (Below.refl w.heap.size w) n |>.trans b1)
  clear b1
  go_wp2
  go_ret
  exact ⟨rfl, B1.out⟩
theorem tNumber_any (s : ByteArray) (w : World) (hs : s.size ≤ 140737488355328) :
  Ct 28 #[.string s] (.float .f64 (numW (nrw 0 (us (trimS s))))) w := by
 have ht := trim_len s
 have hl := nrw_lt (z := 0) (by omega) (us (trimS s))
 have hln := nrw_size (s := trimS s) (by omega)
 obtain ⟨l, hll⟩ : ∃ l, nrw 0 (us (trimS s)) = l := ⟨_, rfl⟩
 have C2 := fun W => tnarrow_any (trimS s) W (by omega)
 rw [hll] at C2 hl hln ⊢
 have h := tNumber_walk s (trimS s) (strOf l) (strOf (nbR l)) _ _ (decide (l = [])) (hxB l) (nbB l) (decide (nbR l = [])) w (Lib.hid (fun W => trim_any s W (by unfold maxLen; omega))) (Lib.hid C2)
  (Lib.hid (fun W => thexadecimal_any l W hl hln)) (Lib.hid (fun W => tnumber_any l W (fun c hc => Nat.lt_trans (hl c hc) (by omega)) hln)) (em_iff l) (em_iff _)
 refine h.mono fun e w' x => ⟨?_, x.2⟩
 rw [x.1, numW_nb]
 simp only [decide_eq_true_eq]
 cases h1 : hxB l
 ·simp only [Bool.false_eq_true, if_false]
 ·simp only [if_true]
end Go.Proofs.YtfcpkdafkmohkaaGreatDoor
namespace Go.Proofs.YtfcpkdafkmohkaaGreatDoor
open Go.RowKit
set_option maxRecDepth 100000 in
theorem tscaled_walk {w : World} {A : Option Addr} {n c m T B : Nat} {two ten t : Int} {Q : World → Ending → World → Prop} (hA : NV w A n c m)
  (C1 : Hid (∀ W, NV W A n c m → Cp 185 #[.slice A n c, .int .i64 ten] W (NRet T W)))
  (C3 : Hid (∀ W A1 n1 c1, NV W A1 n1 c1 1 → Cp 185 #[.slice A1 n1 c1, .int .i64 (-ten)] W (NRet B W)))
  (C6 : Hid (∀ W A1 n1 c1 A2 n2 c2, NV W A1 n1 c1 T → NV W A2 n2 c2 B → Cp 109 #[.slice A1 n1 c1, .slice A2 n2 c2, .int .i64 t] W fun e w' => ∃ v b, e = .returned (.tuple #[v, .bool b]) ∧ Q W e w'))
  (k1 : IntKind.i64.wrap (-ten) = -ten) (k2 : IntKind.i64.wrap (two + ten) = t) :
  Cp 123 #[.slice A n c, .int .i64 two, .int .i64 ten] w fun e w' => ∃ W, Q W e w' ∧ Below w.heap.size w W := by
 have C2 := Lib.hid (fun W => nof 1 (by omega) W)
 have HA := Lib.hid hA
 clear hA
 go_enter Tryz.func123, Tryz.ntmps123
 go_wp2_with fail
 refine (C1.out _ HA.out).mono ?_
 rintro e w1 ⟨A1, n1, c1, rfl, g1, b1⟩
 have G1 := Lib.hid g1
 have B1 := Lib.hid b1
 clear g1 b1
 go_wp2_with fail
 refine (C2.out _).mono ?_
 rintro e w2 ⟨A2, n2, c2, rfl, g2, b2⟩
 have G2 := Lib.hid g2
 have G1' := Lib.hid (G1.out.step b2)
 have B2 := Lib.hid (below_le B1.out b2)
 clear g2 b2
 go_wp2_with fail
 refine (C3.out _ _ _ _ G2.out).mono ?_
 rintro e w3 ⟨A3, n3, c3, rfl, g3, b3⟩
 have G3 := Lib.hid g3
 have G1'' := Lib.hid (G1'.out.step b3)
 have B3 := Lib.hid (below_le B2.out b3)
 clear g3 b3
 go_wp2_with fail
 refine (C6.out _ _ _ _ _ _ _ G1''.out G3.out).mono ?_
 rintro e w4 ⟨v, b, rfl, q4⟩
 have Q4 := Lib.hid q4
 clear q4
 go_wp2
 go_ret2
 exact ⟨_, Q4.out, B3.out⟩
def scA (m : Nat) (two ten : Int) : Nat := m * 5 ^ ten.toNat * 2 ^ (two + ten).toNat
def scB (two ten : Int) : Nat := 5 ^ (-ten).toNat * 2 ^ (-(two + ten)).toNat
theorem scB_pos (two ten : Int) : 0 < scB two ten := Nat.mul_pos (Nat.pow_pos (by omega)) (two_pos _)
theorem tscaled_any {w : World} {A : Option Addr} {n c m : Nat} (two ten : Int) (hA : NV w A n c m) (hm : bln m ≤ 2000) (h1 : -1000 ≤ ten) (h2 : ten ≤ 1000) (h3 : -3000 ≤ two) (h4 : two ≤ 3000) :
  Cp 123 #[.slice A n c, .int .i64 two, .int .i64 ten] w (QRet (scA m two ten) (scB two ten) w) := by
 have f1 := bln_five ten.toNat
 have f2 := bln_five (-ten).toNat
 have g1 := bln_mul m (5 ^ ten.toNat)
 have p2 : 0 < 5 ^ (-ten).toNat := Nat.pow_pos (by omega)
 have C1 := Lib.hid (fun W (h : NV W A n c m) => traised_any ten h (by omega) (by omega) (by omega))
 have C3 : Hid (∀ W A1 n1 c1, NV W A1 n1 c1 1 → Cp 185 #[.slice A1 n1 c1, .int .i64 (-ten)] W (NRet (5 ^ (-ten).toNat) W)) := Lib.hid (fun W A1 n1 c1 h => by
  have := traised_any (-ten) h (by rw [show bln 1 = 1 by decide]; omega) (by omega) (by omega)
  rw [Nat.one_mul] at this
  exact this)
 have C6 : Hid (∀ W A1 n1 c1 A2 n2 c2, NV W A1 n1 c1 (m * 5 ^ ten.toNat) → NV W A2 n2 c2 (5 ^ (-ten).toNat) → Cp 109 #[.slice A1 n1 c1, .slice A2 n2 c2, .int .i64 (two + ten)] W fun e w' => ∃ v b, e = .returned (.tuple #[v, .bool b]) ∧ QRet (scA m two ten) (scB two ten) W e w') := Lib.hid (fun W A1 n1 c1 A2 n2 c2 h g => (tratio_any (two + ten) h g (by omega) (by omega) p2 (by omega) (by omega)).mono (by
  rintro e w' ⟨A3, n3, c3, rfl, hv, hb⟩
  exact ⟨_, _, rfl, A3, n3, c3, rfl, hv, hb⟩))
 refine (tscaled_walk hA C1 C3 C6 (IntWalk.i64_in _ (by omega)) (IntWalk.i64_in _ (by omega))).mono ?_
 rintro e w' ⟨W, ⟨A3, n3, c3, rfl, hv, hb⟩, hw⟩
 exact ⟨A3, n3, c3, rfl, hv, below_le hw hb⟩

end Go.Proofs.YtfcpkdafkmohkaaGreatDoor
namespace Go.Proofs.YtfcpkdafkmohkaaGreatDoor
open Go.RowKit
theorem sc_le (m : Nat) (two n : Int) : scB two (-n) ≤ scA m two (-n) ↔ le10 n (m * 2 ^ two.toNat) (2 ^ (-two).toNat) := by
 unfold le10 scA scB
 obtain ⟨a, ha⟩ : ∃ a, two.toNat = a := ⟨_, rfl⟩
 obtain ⟨b, hb⟩ : ∃ b, (-two).toNat = b := ⟨_, rfl⟩
 obtain ⟨c, hc⟩ : ∃ c, n.toNat = c := ⟨_, rfl⟩
 obtain ⟨d, hd⟩ : ∃ d, (-n).toNat = d := ⟨_, rfl⟩
 obtain ⟨p, hp⟩ : ∃ p, (two + -n).toNat = p := ⟨_, rfl⟩
 obtain ⟨q, hq⟩ : ∃ q, (-(two + -n)).toNat = q := ⟨_, rfl⟩
 rw [ha, hb, hc, hd, hp, hq, show (- -n).toNat = c by omega]
 have e : 2 ^ q * (2 ^ a * 2 ^ d) = 2 ^ p * (2 ^ b * 2 ^ c) := by
  rw [← Nat.pow_add, ← Nat.pow_add, ← Nat.pow_add, ← Nat.pow_add]
  exact congrArg (fun k => 2 ^ k) (by omega)
 have t1 : (10 : Nat) ^ c = 5 ^ c * 2 ^ c := by rw [← Nat.mul_pow]
 have t2 : (10 : Nat) ^ d = 5 ^ d * 2 ^ d := by rw [← Nat.mul_pow]
 rw [t1, t2]
 have hq0 := two_pos q
 have hbc : 0 < 2 ^ b * 2 ^ c := Nat.mul_pos (two_pos b) (two_pos c)
 generalize 2 ^ q = Q at *
 generalize 2 ^ a = A at *
 generalize 2 ^ d = D at *
 generalize 2 ^ p = P at *
 generalize 2 ^ b = B at *
 generalize 2 ^ c = C at *
 generalize 5 ^ c = F at *
 generalize 5 ^ d = G at *
 have r1 : B * (F * C) * Q = F * Q * (B * C) := by grind
 have r2 : m * A * (G * D) * Q = m * G * (Q * (A * D)) := by grind
 have r3 : m * G * P * (B * C) = m * G * (P * (B * C)) := by grind
 constructor
 ·intro h
  refine Nat.le_of_mul_le_mul_right ?_ hq0
  rw [r1, r2, e, ← r3]
  exact Nat.mul_le_mul_right _ h
 ·intro h
  refine Nat.le_of_mul_le_mul_right ?_ hbc
  have := Nat.mul_le_mul_right Q h
  rw [r1, r2, e, ← r3] at this
  exact this
set_option maxRecDepth 100000 in
set_option maxHeartbeats 1000000 in
theorem tpoint_walk {w : World} {A : Option Addr} {n c m bt V : Nat} {two x1 x2 x3 x4 x5 n1 : Int} (hA : NV w A n c m) (up : Bool)
  (C1 : Hid (∀ W, NV W A n c m → Cq 156 #[.slice A n c] (.int .i64 (bt : Nat)) W))
  (C2 : Hid (∀ W, NV W A n c m → Cp 123 #[.slice A n c, .int .i64 two, .int .i64 (-n1)] W fun e w' => ∃ A3 n3 c3 b, e = .returned (.tuple #[.slice A3 n3 c3, .bool b]) ∧ NV w' A3 n3 c3 V ∧ Below W.heap.size W w'))
  (k1 : wrap64 ((bt : Int) + two) = x1) (k2 : wrap64 (x1 - 1) = x2) (k3 : wrap64 (x2 * 78913) = x3) (k4 : x3 / 262144 = x4) (k5 : wrap64 (x4 + 1) = n1) (k6 : wrap64 (-n1) = -n1) (k7 : wrap64 (n1 + 1) = x5) (hup : up = decide (0 < V)) :
  Ct 94 #[.slice A n c, .int .i64 two] (.int .i64 (if up = true then x5 else n1)) w := by
 have HA := Lib.hid hA
 have HU := Lib.hid hup
 clear hA hup
 go_enter Tryz.func94, Tryz.ntmps94
 go_wp2_with fail
 refine (C1.out _ HA.out).mono ?_
 rintro e w' ⟨rfl, rfl⟩
 go_wp2_with fail
 refine (C2.out _ HA.out).mono ?_
 rintro e w1 ⟨A3, n3, c3, b, rfl, g, b1⟩
 have B1 := Lib.hid b1
 have hl := g.len
 clear b1
 have h0 := HU.out
 cases up
 ·have hV : V = 0 := by
   have := of_decide_eq_false h0.symm
   omega
  have t1 : ¬ (0 : Int) < (n3 : Int) := by
   rw [hV] at hl
   have : n3 = 0 := by rw [← hl]; rfl
   omega
  clear g hl h0 hV
  go_wp2
  go_ret
  exact ⟨rfl, B1.out⟩
 ·have hV : 0 < V := of_decide_eq_true h0.symm
  have t1 : (0 : Int) < (n3 : Int) := by
   have h2 : (wds V) ≠ [] := fun e => by
    have h3 := wds_val V
    rw [e] at h3
    have : val [] = 0 := rfl
    omega
   have := List.length_pos_iff.2 h2
   omega
  clear g hl h0 hV
  go_wp2
  go_ret
  exact ⟨rfl, B1.out⟩

end Go.Proofs.YtfcpkdafkmohkaaGreatDoor
namespace Go.Proofs.YtfcpkdafkmohkaaGreatDoor
open Go.RowKit
theorem lead_at {m k : Nat} {two e : Int} (h1 : 2 ^ k ≤ m) (h2 : m < 2 ^ (k + 1)) (he : (k : Int) + two = e) :
  2 ^ e.toNat * 2 ^ (-two).toNat ≤ m * 2 ^ two.toNat * 2 ^ (-e).toNat ∧ m * 2 ^ two.toNat * 2 ^ (-e).toNat < 2 * 2 ^ e.toNat * 2 ^ (-two).toNat := by
 have key : 2 ^ k * 2 ^ two.toNat * 2 ^ (-e).toNat = 2 ^ e.toNat * 2 ^ (-two).toNat := by
  rw [← Nat.pow_add, ← Nat.pow_add, ← Nat.pow_add]
  exact congrArg (fun k => 2 ^ k) (by omega)
 have hp := two_pos two.toNat
 have hq := two_pos (-e).toNat
 constructor
 ·rw [← key]
  exact Nat.mul_le_mul_right _ (Nat.mul_le_mul_right _ h1)
 ·rw [Nat.mul_assoc, Nat.mul_assoc 2, ← key, ← Nat.mul_assoc m, ← Nat.mul_assoc 2, ← Nat.mul_assoc 2, show 2 * 2 ^ k = 2 ^ (k + 1) by rw [Nat.pow_succ, Nat.mul_comm]]
  exact Nat.mul_lt_mul_of_pos_right (Nat.mul_lt_mul_of_pos_right h2 hp) hq
theorem tpoint_any {w : World} {A : Option Addr} {n c m : Nat} (two : Int) (hA : NV w A n c m) (h0 : 0 < m) (hm : bln m ≤ 100) (h1 : -1140 < (bln m : Int) + two - 1) (h2 : (bln m : Int) + two - 1 < 1100) :
  ∃ p : Int, PointAt (m * 2 ^ two.toNat) (2 ^ (-two).toNat) p ∧ -345 ≤ p ∧ p ≤ 335 ∧ Ct 94 #[.slice A n c, .int .i64 two] (.int .i64 p) w := by
 obtain ⟨u1, u2, u3⟩ := bln_bounds h0
 obtain ⟨k, hk⟩ : ∃ k, bln m = k + 1 := ⟨bln m - 1, by omega⟩
 have C1 := Lib.hid (fun W (h : NV W A n c m) => nbits h (by omega))
 rw [hk] at u1 u2 hm h1 h2 C1
 rw [Nat.add_sub_cancel] at u1
 obtain ⟨e, he⟩ : ∃ e, (k : Int) + two = e := ⟨_, rfl⟩
 obtain ⟨l1, l2⟩ := lead_at u1 u2 he
 obtain ⟨p1, p2⟩ := point_lg (u := m * 2 ^ two.toNat) (v := 2 ^ (-two).toNat) (e := e) (two_pos _) (by omega) (by omega) l1 l2
 obtain ⟨n1, hn1⟩ : ∃ n1, lg2 e + 1 = n1 := ⟨_, rfl⟩
 have hlg : e * 78913 / 262144 = n1 - 1 := by unfold lg2 at hn1; omega
 have b1 : -345 ≤ n1 ∧ n1 ≤ 333 := by omega
 rw [hn1] at p1 p2
 rw [show lg2 e + 2 = n1 + 1 by omega] at p2
 have hs := sc_le m two n1
 have hq : (0 < scA m two (-n1) / scB two (-n1)) ↔ le10 n1 (m * 2 ^ two.toNat) (2 ^ (-two).toNat) := by
  rw [Nat.div_pos_iff, ← hs]
  exact ⟨fun h => h.2, fun h => ⟨scB_pos _ _, h⟩⟩
 have C2 : Hid (∀ W, NV W A n c m → Cp 123 #[.slice A n c, .int .i64 two, .int .i64 (-n1)] W fun e w' => ∃ A3 n3 c3 b, e = .returned (.tuple #[.slice A3 n3 c3, .bool b]) ∧ NV w' A3 n3 c3 (scA m two (-n1) / scB two (-n1)) ∧ Below W.heap.size W w') := Lib.hid (fun W h => (tscaled_any two (-n1) h (by omega) (by omega) (by omega) (by omega) (by omega)).mono (by
  rintro e w' ⟨A3, n3, c3, rfl, hv, hb⟩
  exact ⟨A3, n3, c3, _, rfl, hv, hb⟩))
 have W := fun up h => tpoint_walk (two := two) (x1 := ((k + 1 : Nat) : Int) + two) (x2 := e) (x3 := e * 78913) (x4 := n1 - 1) (x5 := n1 + 1) (n1 := n1) hA up C1 C2 (by unfold wrap64; omega) (by unfold wrap64; omega) (by unfold wrap64; omega) hlg (by unfold wrap64; omega) (by unfold wrap64; omega) (by unfold wrap64; omega) h
 by_cases h : 0 < scA m two (-n1) / scB two (-n1)
 ·exact ⟨n1 + 1, p2 (hq.1 h), by omega, by omega, W true (decide_eq_true h).symm⟩
 ·exact ⟨n1, p1 (fun hh => h (hq.2 hh)), by omega, by omega, W false (decide_eq_false h).symm⟩

end Go.Proofs.YtfcpkdafkmohkaaGreatDoor
namespace Go.Proofs.YtfcpkdafkmohkaaGreatDoor
def dL (n : Nat) : List Nat := (Lib.decDigits n).map UInt8.toNat
theorem u8_toNat {n : Nat} (h : n < 256) : (UInt8.ofNat n).toNat = n := by simp; omega
theorem dL_small {n : Nat} (h : n < 10) : dL n = [48 + n] := by
 unfold dL
 rw [Lib.decDigits, dif_pos h, List.map_cons, List.map_nil, u8_toNat (by omega)]
theorem dL_big {n : Nat} (h : 10 ≤ n) : dL n = dL (n / 10) ++ [48 + n % 10] := by
 unfold dL
 rw [Lib.decDigits, dif_neg (by omega), List.map_append, List.map_cons, List.map_nil, u8_toNat (by omega)]
theorem dL_snoc {n d : Nat} (hn : 0 < n) (hd : d < 10) : dL (n * 10 + d) = dL n ++ [48 + d] := by
 rw [dL_big (by omega), show (n * 10 + d) / 10 = n by omega, show (n * 10 + d) % 10 = d by omega]
theorem dL_ind {P : Nat → Prop} (h1 : ∀ n, n < 10 → P n) (h2 : ∀ n, 10 ≤ n → P (n / 10) → P n) (n : Nat) : P n := by
 induction n using Nat.strongRecOn with
 | _ n ih =>
  by_cases h : n < 10
  ·exact h1 n h
  ·exact h2 n (by omega) (ih _ (by omega))
theorem dL_dig (n : Nat) : ∀ c ∈ dL n, dg10 c = true := by
 refine dL_ind (P := fun n => ∀ c ∈ dL n, dg10 c = true) ?_ ?_ n
 ·intro n h c hc
  rw [dL_small h, List.mem_singleton] at hc
  subst hc
  exact dg10_iff.2 (by omega)
 ·intro n h ih c hc
  rw [dL_big h, List.mem_append, List.mem_singleton] at hc
  rcases hc with hc | rfl
  ·exact ih c hc
  ·exact dg10_iff.2 (by omega)
theorem dL_ne (n : Nat) : dL n ≠ [] := by
 by_cases h : n < 10
 ·rw [dL_small h]; simp
 ·rw [dL_big (by omega)]; simp
theorem dL_pos (n : Nat) : 0 < (dL n).length := List.length_pos_iff.2 (dL_ne n)
theorem dgt_48p {d : Nat} (h : d < 10) : dgt (48 + d) = d := by
 have := dgt_ten (c := 48 + d) (dg10_iff.2 (by omega))
 omega
theorem dL_num (n : Nat) : num 10 (dL n) = n := by
 refine dL_ind (P := fun n => num 10 (dL n) = n) ?_ ?_ n
 ·intro n h
  rw [dL_small h, num_one, dgt_48p h]
 ·intro n h ih
  rw [dL_big h, num_append, ih, num_one, dgt_48p (by omega), List.length_singleton]
  omega
theorem dL_head {n : Nat} : 0 < n → (dL n).head? ≠ some 48 := by
 refine dL_ind (P := fun n => 0 < n → (dL n).head? ≠ some 48) ?_ ?_ n
 ·intro n h h0
  rw [dL_small h]
  simp
  omega
 ·intro n h ih _
  have := dL_ne (n / 10)
  have ih' := ih (by omega)
  rw [dL_big h]
  cases hd : dL (n / 10) with
  | nil => exact absurd hd this
  | cons a b =>
   rw [hd] at ih'
   simpa using ih'
theorem dL_lt (n : Nat) : n < 10 ^ (dL n).length := by
 have := num_hi (g := dL n) (dL_dig n)
 rwa [dL_num] at this
theorem dL_ge {n : Nat} (h : 0 < n) : 10 ^ ((dL n).length - 1) ≤ n := by
 have := num_lo (g := dL n) (dL_dig n) (dL_ne n) (dL_head h)
 rwa [dL_num] at this
theorem ten_lt {a b : Nat} (h : 10 ^ a < 10 ^ b) : a < b := by
 rcases Nat.lt_or_ge a b with h1 | h1
 ·exact h1
 ·have := Nat.pow_le_pow_right (n := 10) (by omega) h1
  omega
theorem dL_len {n k : Nat} (h1 : 10 ^ k ≤ n) (h2 : n < 10 ^ (k + 1)) : (dL n).length = k + 1 := by
 have hp := ten_pos k
 have a1 := ten_lt (Nat.lt_of_le_of_lt h1 (dL_lt n))
 have a2 := ten_lt (Nat.lt_of_le_of_lt (dL_ge (n := n) (by omega)) h2)
 omega
theorem dL_zeros {n : Nat} (hn : 0 < n) : ∀ j : Nat, dL (n * 10 ^ j) = dL n ++ List.replicate j 48
 | 0 => by simp
 | j + 1 => by
  have h := dL_snoc (n := n * 10 ^ j) (d := 0) (Nat.mul_pos hn (ten_pos j)) (by omega)
  rw [Nat.pow_succ, ← Nat.mul_assoc, show n * 10 ^ j * 10 = n * 10 ^ j * 10 + 0 by omega, h, dL_zeros hn j, List.replicate_succ', List.append_assoc]
theorem trz_snoc {l : List Nat} {c : Nat} (h : c ≠ 48) : trz (l ++ [c]) = l ++ [c] := by
 unfold trz
 rw [List.reverse_append, List.reverse_singleton, List.singleton_append, List.dropWhile_cons_of_neg (by simpa using h)]
 simp
theorem trz_rep (l : List Nat) : ∀ j : Nat, trz (l ++ List.replicate j 48) = trz l
 | 0 => by simp
 | j + 1 => by
  rw [List.replicate_succ', ← List.append_assoc]
  have : ∀ m : List Nat, trz (m ++ [48]) = trz m := fun m => by
   unfold trz
   rw [List.reverse_append, List.reverse_singleton, List.singleton_append, List.dropWhile_cons_of_pos (by simp)]
  rw [this, trz_rep l j]
theorem dL_last {n : Nat} (h : n % 10 ≠ 0) : trz (dL n) = dL n := by
 by_cases h1 : n < 10
 ·rw [dL_small h1, show [48 + n] = [] ++ [48 + n] from rfl, trz_snoc (by omega)]
 ·rw [dL_big (by omega), trz_snoc (by omega)]
theorem dL_trz {n : Nat} (h : n % 10 ≠ 0) (j : Nat) : trz (dL (n * 10 ^ j)) = dL n := by
 rw [dL_zeros (by omega), trz_rep, dL_last h]

end Go.Proofs.YtfcpkdafkmohkaaGreatDoor
namespace Go.Proofs.YtfcpkdafkmohkaaGreatDoor
theorem two_move {N S P Q x y : Nat} (h : N * 2 ^ x = S * 2 ^ y) (e : P + y = x + Q) : N * 2 ^ P = S * 2 ^ Q := by
 refine Nat.eq_of_mul_eq_mul_right (two_pos y) ?_
 rw [Nat.mul_assoc, ← Nat.pow_add, e, Nat.pow_add, ← Nat.mul_assoc, h, Nat.mul_assoc, Nat.mul_assoc, Nat.mul_comm (2 ^ y)]
theorem sc_cross {N S M x y : Nat} {two ten : Int} (hxy : (x : Int) - y = two + M) (h : N * 2 ^ x = S * 2 ^ y) :
  scA N two ten * (2 ^ M * 10 ^ (-ten).toNat) = S * 10 ^ ten.toNat * scB two ten := by
 unfold scA scB
 obtain ⟨a, ha⟩ : ∃ a, ten.toNat = a := ⟨_, rfl⟩
 obtain ⟨b, hb⟩ : ∃ b, (-ten).toNat = b := ⟨_, rfl⟩
 obtain ⟨p, hp⟩ : ∃ p, (two + ten).toNat = p := ⟨_, rfl⟩
 obtain ⟨q, hq⟩ : ∃ q, (-(two + ten)).toNat = q := ⟨_, rfl⟩
 rw [ha, hb, hp, hq]
 have key := two_move (P := p + (M + b)) (Q := a + q) h (by omega)
 rw [Nat.pow_add, Nat.pow_add, Nat.pow_add] at key
 have t1 : (10 : Nat) ^ a = 5 ^ a * 2 ^ a := by rw [← Nat.mul_pow]
 have t2 : (10 : Nat) ^ b = 5 ^ b * 2 ^ b := by rw [← Nat.mul_pow]
 rw [t1, t2]
 generalize 2 ^ p = P' at *
 generalize 2 ^ M = M' at *
 generalize 2 ^ b = B' at *
 generalize 2 ^ a = A' at *
 generalize 2 ^ q = Q' at *
 generalize 5 ^ a = F
 generalize 5 ^ b = G
 have r1 : N * F * P' * (M' * (G * B')) = F * G * (N * (P' * (M' * B'))) := by grind
 have r2 : S * (F * A') * (G * Q') = F * G * (S * (A' * Q')) := by grind
 rw [r1, r2, key]
theorem rest_cross {a b c d : Nat} (hb : 0 < b) (hd : 0 < d) (h : a * d = c * b) : a % b = 0 ↔ c % d = 0 := by
 have e := (quot_cross hb hd h).1
 have h1 := Nat.div_add_mod a b
 have h2 := Nat.div_add_mod c d
 generalize a % b = s at *
 generalize c % d = t at *
 rw [← e] at h2
 generalize a / b = q at *
 have k1 : a * d = b * q * d + s * d := by rw [← h1]; grind
 have k2 : c * b = b * q * d + t * b := by rw [← h2]; grind
 have k3 : s * d = t * b := by omega
 constructor
 ·intro h0
  rw [h0, Nat.zero_mul] at k3
  rcases Nat.mul_eq_zero.1 k3.symm with h | h
  ·exact h
  ·omega
 ·intro h0
  rw [h0, Nat.zero_mul] at k3
  rcases Nat.mul_eq_zero.1 k3 with h | h
  ·exact h
  ·omega
theorem quarters {r c D : Nat} (h1 : r = D * 4503599627370496 + c) (h2 : c < 9007199254740992) (h3 : D = 0 ∨ 4503599627370496 ≤ c) (h0 : 0 < r) :
  2 * (fmag r + fmag (r + 1)) = (4 * c + 2) * 2 ^ D ∧ 2 * (fmag (r - 1) + fmag r) = (4 * c - (if c = 4503599627370496 ∧ 0 < D then 1 else 2)) * 2 ^ D := by
 obtain ⟨D', c', e1, e2, e3, e4, e5⟩ := rung_parts r
 have hD : D' = D ∧ c' = c := by
  rcases h3 with h3 | h3 <;> rcases e3 with e3 | e3 <;> omega
 obtain ⟨rfl, rfl⟩ := hD
 have hc0 : 0 < c' := by
  rcases h3 with h3 | h3
  ·subst h3; omega
  ·omega
 refine ⟨by rw [e4, e5, ← Nat.add_mul]; grind, ?_⟩
 by_cases hp : c' = 4503599627370496 ∧ 0 < D'
 ·obtain ⟨p1, p2⟩ := hp
  rw [if_pos ⟨p1, p2⟩]
  obtain ⟨d, rfl⟩ : ∃ d, D' = d + 1 := ⟨D' - 1, by omega⟩
  have hr : r - 1 = d * 4503599627370496 + 9007199254740991 := by omega
  have hm := fmag_make 9007199254740991 d (by omega) (by omega)
  rw [← hr] at hm
  rw [hm, e4, p1, Nat.pow_succ]
  generalize 2 ^ d = X
  omega
 ·rw [if_neg hp]
  have hm : fmag (r - 1) = (c' - 1) * 2 ^ D' := by
   rcases Nat.eq_zero_or_pos D' with hD | hD
   ·subst hD
    rw [show r - 1 = c' - 1 by omega, fmag_low (by omega)]
    simp
   ·have : 4503599627370496 < c' := by
     rcases e3 with e3 | e3
     ·omega
     ·have : c' ≠ 4503599627370496 := fun h => hp ⟨h, hD⟩
      omega
    have hm := fmag_make (c' - 1) D' (by omega) (by omega)
    rw [← hm]
    exact congrArg fmag (by omega)
  rw [hm, e4]
  obtain ⟨x, rfl⟩ : ∃ x, c' = x + 1 := ⟨c' - 1, by omega⟩
  generalize 2 ^ D' = X
  rw [show 4 * (x + 1) - 2 = 4 * x + 2 by omega, show x + 1 - 1 = x by omega]
  grind

end Go.Proofs.YtfcpkdafkmohkaaGreatDoor
namespace Go.Proofs.YtfcpkdafkmohkaaGreatDoor
def powK (K : Nat) : Nat := 2 ^ K
theorem powK_eq (K : Nat) : powK K = 2 ^ K := rfl
theorem powK_pos (K : Nat) : 0 < powK K := two_pos K
def big : Nat := powK 1074
theorem big_pos : 0 < big := powK_pos 1074
theorem big_K : ∃ K : Nat, K = 1074 ∧ big = 2 ^ K := ⟨1074, rfl, powK_eq 1074⟩
def vU (r : Nat) (s : Int) : Nat := fmag r * 10 ^ s.toNat
def vV (s : Int) : Nat := big * 10 ^ (-s).toNat
theorem vV_pos (s : Int) : 0 < vV s := Nat.mul_pos big_pos (ten_pos _)
theorem decR_big (N : Nat) (e : Int) : decR N e = rnd (N * vV (-e)) (10 ^ (-e).toNat) := by
 obtain ⟨K, hK, hd⟩ := decR_K
 obtain ⟨K', hK', hb⟩ := big_K
 have : K' = K := by omega
 subst this
 unfold vV
 rw [hd, hb, show (- -e).toNat = e.toNat by omega, Nat.mul_assoc, Nat.mul_comm (10 ^ e.toNat)]
theorem ten_iff {u v a b c d : Nat} (e : c + b = a + d) : v * 10 ^ a ≤ u * 10 ^ b ↔ v * 10 ^ c ≤ u * 10 ^ d := by
 have hb := ten_pos b
 have hd := ten_pos d
 have e1 : v * 10 ^ a * 10 ^ d = v * 10 ^ c * 10 ^ b := by rw [Nat.mul_assoc, Nat.mul_assoc, ← Nat.pow_add, ← Nat.pow_add, e]
 have e2 : u * 10 ^ b * 10 ^ d = u * 10 ^ d * 10 ^ b := Nat.mul_right_comm _ _ _
 rw [← Nat.mul_le_mul_right_iff hd, e1, e2, Nat.mul_le_mul_right_iff hb]
theorem le10_at {r j : Nat} {m s : Int} (h : m + s = j) : le10 m (fmag r) big ↔ 10 ^ j * vV s ≤ vU r s := by
 unfold le10 vU vV
 rw [Nat.mul_left_comm, ← Nat.pow_add]
 exact ten_iff (by omega)
theorem vU_cross (r i : Nat) (s : Int) : vU r (s - i) * (vV s * 10 ^ i) = vU r s * vV (s - i) := by
 unfold vU vV
 have h1 : fmag r * 10 ^ (s - i).toNat * (big * 10 ^ (-s).toNat * 10 ^ i) = fmag r * big * (10 ^ (s - i).toNat * 10 ^ (-s).toNat * 10 ^ i) := by
  generalize 10 ^ (s - i).toNat = a
  generalize 10 ^ (-s).toNat = b
  generalize 10 ^ i = c
  grind
 have h2 : fmag r * 10 ^ s.toNat * (big * 10 ^ (-(s - i)).toNat) = fmag r * big * (10 ^ s.toNat * 10 ^ (-(s - i)).toNat) := by
  generalize 10 ^ s.toNat = a
  generalize 10 ^ (-(s - i)).toNat = b
  grind
 rw [h1, h2, ← Nat.pow_add, ← Nat.pow_add, ← Nat.pow_add]
 exact congrArg (fun k => fmag r * big * 10 ^ k) (by omega)
theorem lower_quot (r i : Nat) (s : Int) : vU r (s - i) / vV (s - i) = vU r s / vV s / 10 ^ i := by
 rw [(quot_cross (vV_pos _) (Nat.mul_pos (vV_pos s) (ten_pos i)) (vU_cross r i s)).1, Nat.div_div_eq_div_mul]
theorem lower_rest (r i half : Nat) (s : Int) (hi : 10 ^ i = 2 * half) :
  (2 * (vU r (s - i) % vV (s - i)) < vV (s - i) ↔ vU r s / vV s % 10 ^ i < half) ∧ (2 * (vU r (s - i) % vV (s - i)) = vV (s - i) ↔ vU r s / vV s % 10 ^ i = half ∧ vU r s % vV s = 0) := by
 have h := quot_cross (vV_pos _) (Nat.mul_pos (vV_pos s) (ten_pos i)) (vU_cross r i s)
 have g := unit_rest (U := vU r s) (half := half) (vV_pos s)
 rw [← hi] at g
 exact ⟨h.2.1.trans g.2.1, h.2.2.trans g.2.2⟩
def cq (r : Nat) (n : Int) (k : Nat) : Nat := vU r (k - n) / vV (k - n)
def cnear (r : Nat) (n : Int) (k : Nat) : Bool := decide (2 * (vU r (k - n) % vV (k - n)) < vV (k - n)) || (decide (2 * (vU r (k - n) % vV (k - n)) = vV (k - n)) && decide (cq r n k % 2 = 0))
def clow (r : Nat) (n : Int) (k : Nat) : Bool := decide (decR (cq r n k) (n - k) = r)
def chigh (r : Nat) (n : Int) (k : Nat) : Bool := decide (decR (cq r n k + 1) (n - k) = r)
def cnd (r : Nat) (n : Int) (k : Nat) : Option Nat :=
 if (clow r n k && (!chigh r n k || cnear r n k)) = true then some (cq r n k) else if chigh r n k = true then some (cq r n k + 1) else none
theorem cnd_none {r k : Nat} {n : Int} : cnd r n k = none ↔ clow r n k = false ∧ chigh r n k = false := by
 unfold cnd
 cases clow r n k <;> cases chigh r n k <;> cases cnear r n k <;> simp
theorem cnd_some {r k c : Nat} {n : Int} (h : cnd r n k = some c) : (c = cq r n k ∨ c = cq r n k + 1) ∧ decR c (n - k) = r := by
 unfold cnd at h
 split at h
 ·rename_i hc
  injection h with h
  subst h
  refine ⟨.inl rfl, ?_⟩
  have := (Bool.and_eq_true _ _ ▸ hc).1
  exact of_decide_eq_true this
 ·split at h
  ·rename_i hc
   injection h with h
   subst h
   exact ⟨.inr rfl, of_decide_eq_true hc⟩
  ·cases h
theorem cq_lo {r k : Nat} {n : Int} (hp : PointAt (fmag r) big n) (hk : 1 ≤ k) : 10 ^ (k - 1) ≤ cq r n k := by
 unfold cq
 rw [Nat.le_div_iff_mul_le (vV_pos _)]
 exact (le10_at (by omega)).1 hp.1
theorem cq_hi {r k : Nat} {n : Int} (hp : PointAt (fmag r) big n) : cq r n k < 10 ^ k := by
 unfold cq
 rw [Nat.div_lt_iff_lt_mul (vV_pos _)]
 exact Nat.lt_of_not_le fun h => hp.2 ((le10_at (by omega)).2 h)
theorem cq_ten (r k : Nat) (n : Int) : cq r n k = cq r n (k + 1) / 10 := by
 unfold cq
 have := lower_quot r 1 (((k + 1 : Nat) : Int) - n)
 rw [Nat.pow_one, show ((k + 1 : Nat) : Int) - n - ((1 : Nat) : Int) = (k : Int) - n by omega] at this
 exact this
theorem cnd_last {r k c : Nat} {n : Int} (hp : PointAt (fmag r) big n) (hk : 1 ≤ k) (hmin : ∀ j, 1 ≤ j → j < k → cnd r n j = none) (h : cnd r n k = some c) :
  (c % 10 ≠ 0 ∧ 10 ^ (k - 1) ≤ c ∧ c < 10 ^ k) ∨ (k = 1 ∧ c = 10) := by
 obtain ⟨hc, hd⟩ := cnd_some h
 have b1 := cq_lo (k := k) hp hk
 have b2 := cq_hi (k := k) hp
 by_cases h0 : c % 10 = 0
 ·right
  rcases Nat.lt_or_ge 1 k with h1 | h1
  ·exfalso
   obtain ⟨j, rfl⟩ : ∃ j, k = j + 1 := ⟨k - 1, by omega⟩
   have hn := cnd_none.1 (hmin j (by omega) (by omega))
   have hq := cq_ten r j n
   obtain ⟨d, rfl⟩ : ∃ d, c = d * 10 ^ 1 := ⟨c / 10, by omega⟩
   rw [decR_shift, show n - ((j + 1 : Nat) : Int) + ((1 : Nat) : Int) = n - (j : Int) by omega] at hd
   rcases hc with hc | hc
   ·have : d = cq r n j := by rw [hq]; omega
    rw [this] at hd
    have := hn.1
    unfold clow at this
    exact of_decide_eq_false this hd
   ·have : d = cq r n j + 1 := by rw [hq]; omega
    rw [this] at hd
    have := hn.2
    unfold chigh at this
    exact of_decide_eq_false this hd
  ·have hk1 : k = 1 := by omega
   subst hk1
   refine ⟨rfl, ?_⟩
   simp at b1 b2
   omega
 ·left
  refine ⟨h0, by omega, ?_⟩
  rcases hc with rfl | hc
  ·exact b2
  ·rcases Nat.lt_or_ge c (10 ^ k) with h1 | h1
   ·exact h1
   ·exfalso
    have : c = 10 ^ k := by omega
    obtain ⟨j, rfl⟩ : ∃ j, k = j + 1 := ⟨k - 1, by omega⟩
    rw [this, Nat.pow_succ] at h0
    omega
def SQ (r : Nat) (D : List Nat) (N : Int) : Prop := ∃ n k c, PointAt (fmag r) big n ∧ 1 ≤ k ∧ k ≤ 17 ∧ (∀ j, 1 ≤ j → j < k → cnd r n j = none) ∧ cnd r n k = some c ∧ D = trz (dL c) ∧ N = (dL c).length + n - k
theorem SQ.one {r : Nat} {D E : List Nat} {N M : Int} (h : SQ r D N) (g : SQ r E M) : D = E ∧ N = M := by
 obtain ⟨n, k, c, h1, h2, _, h3, h4, h5, h6⟩ := h
 obtain ⟨n', k', c', g1, g2, _, g3, g4, g5, g6⟩ := g
 have hn := point_one h1 g1
 subst hn
 have hk : k = k' := by
  rcases Nat.lt_trichotomy k k' with h | h | h
  ·rw [g3 k h2 h] at h4; cases h4
  ·exact h
  ·rw [h3 k' g2 h] at g4; cases g4
 subst hk
 rw [h4] at g4
 injection g4 with g4
 subst g4
 exact ⟨h5.trans g5.symm, h6.trans g6.symm⟩
theorem cnd_ends {r : Nat} {n : Int} (hp : PointAt (fmag r) big n) (h0 : 0 < r) (hr : r < 9218868437227405312) : cnd r n 17 ≠ none := by
 intro hn
 obtain ⟨n1, n2⟩ := cnd_none.1 hn
 have hbig : 100000000000000000 * vV (18 - n) ≤ fmag r * 10 ^ ((18 : Int) - n).toNat := (le10_at (j := 17) (s := 18 - n) (by omega)).1 hp.1
 have hB := ten_pos ((18 : Int) - n).toNat
 have hq := lower_quot r 1 (18 - n)
 rw [Nat.pow_one, show (18 : Int) - n - ((1 : Nat) : Int) = ((17 : Nat) : Int) - n by omega] at hq
 have l1 := low_iff (unit := 10) (vV_pos (18 - n)) hB h0 hr
 have l2 := high_iff (unit := 10) (vV_pos (18 - n)) hB (by omega) h0 hr
 have hH : vU r (18 - n) = fmag r * 10 ^ ((18 : Int) - n).toNat := rfl
 have sh : ∀ c, decR c (n - ((17 : Nat) : Int)) = rnd (c * 10 * vV (18 - n)) (10 ^ ((18 : Int) - n).toNat) := by
  intro c
  have e1 := decR_shift c 1 (n - 18)
  rw [Nat.pow_one, show n - 18 + ((1 : Nat) : Int) = n - ((17 : Nat) : Int) by omega] at e1
  rw [← e1, decR_big, show -(n - 18) = 18 - n by omega]
 have m1 := of_decide_eq_false n1
 have m2 := of_decide_eq_false n2
 unfold cq at m1 m2
 rw [sh, hq, hH] at m1 m2
 rcases ten_found (vV_pos (18 - n)) hB h0 hbig with h | h
 ·exact m1 (l1.2 h)
 ·exact m2 (l2.2 h)

end Go.Proofs.YtfcpkdafkmohkaaGreatDoor
namespace Go.Proofs.YtfcpkdafkmohkaaGreatDoor
def pcn (H : Nat) (ex : Bool) (L M unit : Nat) : Option Nat :=
 if L ≤ H - H % unit ∧ (¬ H - H % unit + unit ≤ M ∨ H % unit < unit / 2 ∨ (H % unit = unit / 2 ∧ ex = true ∧ (H - H % unit) / unit % 2 = 0)) then some (H - H % unit)
 else if H - H % unit + unit ≤ M then some (H - H % unit + unit) else none
theorem pcn_cnd {r k i M : Nat} {n : Int} (hk : k + i = 18) (hi : 1 ≤ i) (h0 : 0 < r) (hr : r < 9218868437227405312)
  (hM : ∀ c, c ≤ M ↔ mostLe (vV (18 - n)) (10 ^ ((18 : Int) - n).toNat) r c) :
  pcn (vU r (18 - n) / vV (18 - n)) (decide (vU r (18 - n) % vV (18 - n) = 0)) (leastOf (vV (18 - n)) (10 ^ ((18 : Int) - n).toNat) r) M (10 ^ i) = (cnd r n k).map (· * 10 ^ i) := by
 have hB := ten_pos ((18 : Int) - n).toNat
 have hu := ten_pos i
 obtain ⟨half, hh⟩ : ∃ half, 10 ^ i = 2 * half := ⟨5 * 10 ^ (i - 1), by
  obtain ⟨j, rfl⟩ : ∃ j, i = j + 1 := ⟨i - 1, by omega⟩
  rw [Nat.pow_succ, Nat.add_sub_cancel]
  omega⟩
 have hs : (18 : Int) - n - (i : Int) = (k : Int) - n := by omega
 have hq := lower_quot r i (18 - n)
 have hl := lower_rest r i half (18 - n) hh
 rw [hs] at hq hl
 have l1 := low_iff (unit := 10 ^ i) (vV_pos (18 - n)) hB h0 hr
 have l2 := high_iff (unit := 10 ^ i) (vV_pos (18 - n)) hB hu h0 hr
 rw [show fmag r * 10 ^ ((18 : Int) - n).toNat = vU r (18 - n) from rfl] at l1 l2
 have sh : ∀ c, decR c (n - (k : Int)) = rnd (c * 10 ^ i * vV (18 - n)) (10 ^ ((18 : Int) - n).toNat) := by
  intro c
  have e1 := decR_shift c i (n - 18)
  rw [show n - 18 + (i : Int) = n - (k : Int) by omega] at e1
  rw [← e1, decR_big, show -(n - 18) = 18 - n by omega]
 have hcq : cq r n k = vU r (18 - n) / vV (18 - n) / 10 ^ i := hq
 generalize hH : vU r (18 - n) / vV (18 - n) = H at *
 have hdn : H - H % 10 ^ i = H / 10 ^ i * 10 ^ i := by
  have := Nat.div_add_mod H (10 ^ i)
  rw [Nat.mul_comm] at this
  omega
 have hup : H / 10 ^ i * 10 ^ i + 10 ^ i = (H / 10 ^ i + 1) * 10 ^ i := by rw [Nat.add_mul, Nat.one_mul]
 have ta : leastOf (vV (18 - n)) (10 ^ ((18 : Int) - n).toNat) r ≤ H / 10 ^ i * 10 ^ i ↔ clow r n k = true := by
  rw [← l1]
  unfold clow
  rw [decide_eq_true_iff, hcq, sh]
 have tb : H / 10 ^ i * 10 ^ i + 10 ^ i ≤ M ↔ chigh r n k = true := by
  rw [hM, hup, ← l2]
  unfold chigh
  rw [decide_eq_true_iff, hcq, sh]
 have tc : (H % 10 ^ i < 10 ^ i / 2 ∨ (H % 10 ^ i = 10 ^ i / 2 ∧ decide (vU r (18 - n) % vV (18 - n) = 0) = true ∧ H / 10 ^ i * 10 ^ i / 10 ^ i % 2 = 0)) ↔ cnear r n k = true := by
  unfold cnear
  rw [Bool.or_eq_true, Bool.and_eq_true, decide_eq_true_iff, decide_eq_true_iff, decide_eq_true_iff, decide_eq_true_iff, hl.1, hl.2, hcq, Nat.mul_div_cancel _ hu, show 10 ^ i / 2 = half by omega]
  constructor
  ·rintro (h | ⟨a, b, c⟩)
   ·exact .inl h
   ·exact .inr ⟨⟨a, b⟩, c⟩
  ·rintro (h | ⟨⟨a, b⟩, c⟩)
   ·exact .inl h
   ·exact .inr ⟨a, b, c⟩
 unfold pcn cnd
 rw [hdn, hcq]
 by_cases h1 : clow r n k = true <;> by_cases h2 : chigh r n k = true <;> by_cases h3 : cnear r n k = true
 all_goals
  simp only [ta, tb, tc, h1, h2, h3]
  simp [Nat.add_mul]
theorem rnd_above {r s u : Nat} (hr : r < 9218868437227405312) (hrs : r < s) (h : fmag s ≤ u) : rnd u 1 ≠ r := by
 rcases Nat.lt_or_ge s 9218868437227405312 with hs | hs
 ·have h1 := rnd_own (v := 1) (by omega) hs
  have h2 := rnd_mono (u := fmag s * 1) (v := 1) (u' := u) (v' := 1) (by omega) (by omega) (by omega)
  omega
 ·have hf : fmag 9218868437227405312 ≤ fmag s := by
   rcases Nat.eq_or_lt_of_le hs with e | e
   ·rw [← e]; exact Nat.le_refl _
   ·exact Nat.le_of_lt (fmag_lt.2 e)
  have := rnd_top (u := u) (v := 1) (by omega) (by rw [Nat.mul_one]; exact Nat.le_trans hf h)
  omega
theorem rnd_below {r s u : Nat} (hr : r < 9218868437227405312) (hrs : s < r) (h : u ≤ fmag s) : rnd u 1 ≠ r := by
 have h1 := rnd_own (v := 1) (r := s) (by omega) (by omega)
 have h2 := rnd_mono (u := u) (v := 1) (u' := fmag s * 1) (v' := 1) (by omega) (by omega) (by omega)
 omega
theorem strip_tens {N : Nat} (h : 0 < N) : ∃ c j, N = c * 10 ^ j ∧ c % 10 ≠ 0 := by
 induction N using Nat.strongRecOn with
 | _ N ih =>
  by_cases h0 : N % 10 = 0
  ·obtain ⟨c, j, h1, h2⟩ := ih (N / 10) (by omega) (by omega)
   refine ⟨c, j + 1, ?_, h2⟩
   rw [Nat.pow_succ, ← Nat.mul_assoc, ← h1]
   omega
  ·exact ⟨N, 0, by simp, h0⟩
theorem sq_whole {r N : Nat} (h0 : 0 < N) (hN : N < 9007199254740992) (hr : r < 9218868437227405312) (hm : fmag r = N * big) : SQ r (trz (dL N)) (dL N).length := by
 obtain ⟨K, hK, hbig⟩ := big_K
 obtain ⟨c, j, e, hc⟩ := strip_tens h0
 have hc0 : 0 < c := by omega
 have hlen : (dL N).length = (dL c).length + j := by rw [e, dL_zeros hc0, List.length_append, List.length_replicate]
 obtain ⟨k, hk⟩ : ∃ k, (dL c).length = k := ⟨_, rfl⟩
 have hk1 : 1 ≤ k := by rw [← hk]; exact dL_pos c
 have hl1 := dL_lt N
 have hl2 := dL_ge h0
 rw [hlen, hk] at hl1 hl2
 have hle : k + j ≤ 16 := by
  have h3 : 10 ^ (k + j - 1) < 10 ^ 16 := Nat.lt_of_le_of_lt hl2 (by omega)
  have := ten_lt h3
  omega
 have hq : ∀ i : Nat, i ≤ k + j → cq r ((k + j : Nat) : Int) i = N / 10 ^ (k + j - i) ∧ vU r ((i : Int) - ((k + j : Nat) : Int)) % vV ((i : Int) - ((k + j : Nat) : Int)) = big * (N % 10 ^ (k + j - i)) := by
  intro i hi
  unfold cq vU vV
  rw [show ((i : Int) - ((k + j : Nat) : Int)).toNat = 0 by omega, show (-((i : Int) - ((k + j : Nat) : Int))).toNat = k + j - i by omega, Nat.pow_zero, Nat.mul_one, hm, Nat.mul_comm N]
  exact ⟨Nat.mul_div_mul_left _ _ big_pos, Nat.mul_mod_mul_left _ _ _⟩
 have sh : ∀ d i : Nat, i ≤ k + j → decR d (((k + j : Nat) : Int) - (i : Int)) = rnd (d * 10 ^ (k + j - i) * big) 1 := by
  intro d i hi
  rw [decR_big]
  unfold vV
  rw [show (-(-(((k + j : Nat) : Int) - (i : Int)))).toNat = k + j - i by omega, show (-(((k + j : Nat) : Int) - (i : Int))).toNat = 0 by omega, Nat.pow_zero, Nat.mul_comm big, ← Nat.mul_assoc]
 have hNk : N / 10 ^ j = c := by rw [e]; exact Nat.mul_div_cancel _ (ten_pos j)
 have hNr : N % 10 ^ j = 0 := by rw [e]; exact Nat.mul_mod_left _ _
 have hqk := hq k (by omega)
 rw [show k + j - k = j by omega, hNk, hNr, Nat.mul_zero] at hqk
 have hlow : clow r ((k + j : Nat) : Int) k = true := by
  unfold clow
  rw [decide_eq_true_iff, hqk.1, sh c k (by omega), show k + j - k = j by omega, ← e, ← hm, ← Nat.mul_one (fmag r)]
  exact rnd_own (by omega) hr
 have hnear : cnear r ((k + j : Nat) : Int) k = true := by
  unfold cnear
  rw [hqk.2, Nat.mul_zero, decide_eq_true (vV_pos _), Bool.true_or]
 refine ⟨((k + j : Nat) : Int), k, c, ⟨?_, ?_⟩, hk1, by omega, ?_, ?_, by rw [e, dL_trz hc, dL_last hc], by omega⟩
 ·unfold le10
  rw [show (((k + j : Nat) : Int) - 1).toNat = k + j - 1 by omega, show (-(((k + j : Nat) : Int) - 1)).toNat = 0 by omega, Nat.pow_zero, Nat.mul_one, hm, Nat.mul_comm N]
  exact Nat.mul_le_mul_left _ hl2
 ·unfold le10
  rw [show (((k + j : Nat) : Int)).toNat = k + j by omega, show (-(((k + j : Nat) : Int))).toNat = 0 by omega, Nat.pow_zero, Nat.mul_one, hm, Nat.mul_comm N]
  intro h
  have := Nat.le_of_mul_le_mul_left h big_pos
  omega
 ·intro i hi1 hi2
  rw [cnd_none]
  have hqi := (hq i (by omega)).1
  obtain ⟨d, hd⟩ : ∃ d, k + j - i = j + 1 + d := ⟨k - 1 - i, by omega⟩
  rw [hd] at hqi
  have hne : N % 10 ^ (j + 1 + d) ≠ 0 := by
   intro h
   have h1 : 10 ^ (j + 1) ∣ N := Nat.dvd_trans ⟨10 ^ d, by rw [Nat.pow_add]⟩ (Nat.dvd_of_mod_eq_zero h)
   obtain ⟨f, hf⟩ := h1
   rw [e, Nat.pow_succ, Nat.mul_comm c, Nat.mul_assoc] at hf
   have := Nat.eq_of_mul_eq_mul_left (ten_pos j) hf
   omega
  have hdm := Nat.div_add_mod N (10 ^ (j + 1 + d))
  have hml := Nat.mod_lt N (ten_pos (j + 1 + d))
  constructor
  ·unfold clow
   rw [decide_eq_false_iff_not, hqi, sh _ i (by omega), hd]
   have hW : N / 10 ^ (j + 1 + d) * 10 ^ (j + 1 + d) ≤ N - 1 := by
    rw [Nat.mul_comm]
    omega
   obtain ⟨f1, f2⟩ := fmag_fl (N := N - 1) (by omega) hK
   rw [← hbig] at f1
   refine rnd_below (s := fl (N - 1)) hr (fmag_lt.1 ?_) ?_
   ·rw [f1, hm]
    exact Nat.mul_lt_mul_of_pos_right (by omega) big_pos
   ·rw [f1]
    exact Nat.mul_le_mul_right _ hW
  ·unfold chigh
   rw [decide_eq_false_iff_not, hqi, sh _ i (by omega), hd]
   have hW : N + 1 ≤ (N / 10 ^ (j + 1 + d) + 1) * 10 ^ (j + 1 + d) := by
    rw [Nat.add_mul, Nat.one_mul, Nat.mul_comm]
    omega
   obtain ⟨s, hs⟩ : ∃ s, fmag s = (N + 1) * big := by
    rcases Nat.lt_or_ge (N + 1) 9007199254740992 with h | h
    ·exact rep_of (j := K) (by rw [hbig]) h
    ·have : N + 1 = 9007199254740992 := by omega
     rw [this]
     refine rep_of (M := 1) (j := 53 + K) ?_ (by omega)
     rw [hbig, Nat.pow_add, Nat.one_mul]
   refine rnd_above (s := s) hr (fmag_lt.1 ?_) ?_
   ·rw [hs, hm]
    exact Nat.mul_lt_mul_of_pos_right (by omega) big_pos
   ·rw [hs]
    exact Nat.mul_le_mul_right _ hW
 ·unfold cnd
  rw [hlow, hnear, hqk.1]
  simp

end Go.Proofs.YtfcpkdafkmohkaaGreatDoor
namespace Go.Proofs.YtfcpkdafkmohkaaGreatDoor
def PartIs (r m : Nat) (two : Int) : Prop := ∃ c D k : Nat, r = D * 4503599627370496 + c ∧ c < 9007199254740992 ∧ (D = 0 ∨ 4503599627370496 ≤ c) ∧ c = m * 2 ^ k ∧ two = (D : Int) - 1074 + k ∧ m % 2 = 1 ∧ D ≤ 2045 ∧ k ≤ 52
theorem bln_of {m L : Nat} (h1 : 2 ^ L ≤ m) (h2 : m < 2 ^ (L + 1)) : bln m = L + 1 := by
 have h0 : 0 < m := Nat.lt_of_lt_of_le (two_pos L) h1
 obtain ⟨b1, b2, b3⟩ := bln_bounds h0
 have c1 : L < bln m := (Nat.pow_lt_pow_iff_right (by omega)).1 (Nat.lt_of_le_of_lt h1 b2)
 have c2 : bln m - 1 < L + 1 := (Nat.pow_lt_pow_iff_right (a := 2) (by omega)).1 (Nat.lt_of_le_of_lt b1 h2)
 omega
theorem bln_shift {m k : Nat} (h0 : 0 < m) : bln (m * 2 ^ k) = bln m + k := by
 obtain ⟨b1, b2, b3⟩ := bln_bounds h0
 obtain ⟨L, hL⟩ : ∃ L, bln m = L + 1 := ⟨bln m - 1, by omega⟩
 rw [hL] at b1 b2
 rw [hL, bln_of (L := L + k)]
 ·omega
 ·rw [Nat.pow_add]
  exact Nat.mul_le_mul_right _ b1
 ·rw [show L + k + 1 = L + 1 + k by omega, Nat.pow_add]
  exact Nat.mul_lt_mul_of_pos_right b2 (two_pos k)
theorem PartIs.mag {r m : Nat} {two : Int} (h : PartIs r m two) {K : Nat} (hK : K = 1074) : ∃ t : Nat, (t : Int) = two + K ∧ fmag r = m * 2 ^ t := by
 obtain ⟨c, D, k, h1, h2, h3, h4, h5, h6, _, _⟩ := h
 obtain ⟨D', c', e1, e2, e3, e4, e5⟩ := rung_parts r
 have hD : D' = D ∧ c' = c := by
  rcases h3 with h3 | h3 <;> rcases e3 with e3 | e3 <;> omega
 obtain ⟨rfl, rfl⟩ := hD
 refine ⟨k + D', by omega, ?_⟩
 rw [e4, h4, Nat.mul_assoc, ← Nat.pow_add]
theorem PartIs.pos {r m : Nat} {two : Int} (h : PartIs r m two) : 0 < m ∧ bln m ≤ 53 ∧ -1074 < (bln m : Int) + two ∧ (bln m : Int) + two ≤ 1024 ∧ -1074 ≤ two ∧ two ≤ 1023 := by
 obtain ⟨c, D, k, h1, h2, h3, h4, h5, h6, h7, h8⟩ := h
 have h0 : 0 < m := by omega
 have hb := bln_shift (k := k) h0
 rw [← h4] at hb
 have hc : 0 < c := by rw [h4]; exact Nat.mul_pos h0 (two_pos k)
 obtain ⟨b1, b2, b3⟩ := bln_bounds hc
 obtain ⟨_, _, b6⟩ := bln_bounds h0
 have : bln c ≤ 53 := bln_le (by omega)
 omega
theorem vcross {r m : Nat} {two : Int} (h : PartIs r m two) : m * 2 ^ two.toNat * big = fmag r * 2 ^ (-two).toNat := by
 obtain ⟨K, hK, hb⟩ := big_K
 obtain ⟨t, ht, hm⟩ := h.mag hK
 rw [hm, hb, Nat.mul_assoc, Nat.mul_assoc, ← Nat.pow_add, ← Nat.pow_add]
 exact congrArg (fun k => m * 2 ^ k) (by omega)
theorem point_cross {u v u' v' : Nat} {n : Int} (hv : 0 < v) (hv' : 0 < v') (h : u * v' = u' * v) (hp : PointAt u v n) : PointAt u' v' n :=
 ⟨le10_mono hv (Nat.le_of_eq h) hp.1, fun g => hp.2 (le10_mono hv' (Nat.le_of_eq h.symm) g)⟩
theorem here_cross {r m c D k : Nat} {s : Int} {K : Nat} (hK : K = 1074) (h1 : r = D * 4503599627370496 + c) (h2 : c < 9007199254740992) (h3 : D = 0 ∨ 4503599627370496 ≤ c) (h4 : c = m * 2 ^ k) :
  scA (m * 2 ^ (k + 2)) ((D : Int) - 1076) s * vV s = vU r s * scB ((D : Int) - 1076) s := by
 obtain ⟨K', hK', hb⟩ := big_K
 have : K' = K := by omega
 subst this
 obtain ⟨D', c', e1, e2, e3, e4, e5⟩ := rung_parts r
 have hD : D' = D ∧ c' = c := by
  rcases h3 with h3 | h3 <;> rcases e3 with e3 | e3 <;> omega
 obtain ⟨rfl, rfl⟩ := hD
 unfold vV vU
 rw [hb]
 refine sc_cross (x := D') (y := 2) (by omega) ?_
 rw [e4, h4, Nat.pow_add]
 generalize 2 ^ D' = X
 generalize 2 ^ k = Y
 grind
theorem end_cross {N S D : Nat} {s : Int} {K : Nat} (hK : K = 1074) (h : 2 * S = N * 2 ^ D) : scA N ((D : Int) - 1076) s * (2 * vV s) = S * 10 ^ s.toNat * scB ((D : Int) - 1076) s := by
 obtain ⟨K', hK', hb⟩ := big_K
 have : K' = K := by omega
 subst this
 unfold vV
 rw [hb, show 2 * (2 ^ K' * 10 ^ (-s).toNat) = 2 ^ (K' + 1) * 10 ^ (-s).toNat from by rw [Nat.pow_succ]; grind]
 exact sc_cross (x := D) (y := 1) (by omega) (by rw [Nat.pow_one]; omega)
theorem here_lt {r : Nat} {n : Int} (hp : PointAt (fmag r) big n) : vU r (18 - n) / vV (18 - n) < 1000000000000000000 ∧ 100000000000000000 ≤ vU r (18 - n) / vV (18 - n) := by
 have h := cq_hi (k := 18) hp
 have g := cq_lo (k := 18) hp (by omega)
 exact ⟨h, g⟩
theorem next_le {r : Nat} (h0 : 0 < r) : fmag (r + 1) ≤ 2 * fmag r := by
 obtain ⟨D, c, e1, e2, e3, e4, e5⟩ := rung_parts r
 have hc : 1 ≤ c := by
  rcases e3 with e3 | e3
  ·subst e3; omega
  ·omega
 rw [e4, e5, ← Nat.mul_assoc]
 exact Nat.mul_le_mul_right _ (by omega)
theorem most_lt {r : Nat} {n : Int} (h0 : 0 < r) (hp : PointAt (fmag r) big n) : (fmag r + fmag (r + 1)) * 10 ^ ((18 : Int) - n).toNat / (2 * vV (18 - n)) < 2000000000000000000 ∧ 0 < (fmag r + fmag (r + 1)) * 10 ^ ((18 : Int) - n).toNat / (2 * vV (18 - n)) := by
 obtain ⟨h1, h2⟩ := here_lt hp
 have hv := vV_pos (18 - n)
 rw [Nat.div_lt_iff_lt_mul hv] at h1
 rw [Nat.le_div_iff_mul_le hv] at h2
 have h3 := next_le h0
 unfold vU at h1 h2
 have hup : fmag r < fmag (r + 1) := fmag_step (by omega)
 generalize 10 ^ ((18 : Int) - n).toNat = B at *
 generalize vV (18 - n) = V at *
 generalize fmag r = f at *
 generalize fmag (r + 1) = g at *
 have h4 : g * B ≤ 2 * (f * B) := by rw [← Nat.mul_assoc]; exact Nat.mul_le_mul_right _ h3
 have h5 : f * B ≤ g * B := Nat.mul_le_mul_right _ (by omega)
 constructor
 ·rw [Nat.div_lt_iff_lt_mul (by omega), Nat.add_mul]
  omega
 ·rw [Nat.div_pos_iff, Nat.add_mul]
  omega
theorem least_lt {r : Nat} {n : Int} (h0 : 0 < r) (hp : PointAt (fmag r) big n) : (fmag (r - 1) + fmag r) * 10 ^ ((18 : Int) - n).toNat / (2 * vV (18 - n)) < 1000000000000000000 := by
 obtain ⟨h1, h2⟩ := here_lt hp
 have hv := vV_pos (18 - n)
 rw [Nat.div_lt_iff_lt_mul hv] at h1
 unfold vU at h1
 have hup : fmag (r - 1) < fmag r := fmag_step (by omega)
 generalize 10 ^ ((18 : Int) - n).toNat = B at *
 generalize vV (18 - n) = V at *
 generalize fmag r = f at *
 generalize fmag (r - 1) = g at *
 have h5 : g * B ≤ f * B := Nat.mul_le_mul_right _ (by omega)
 rw [Nat.div_lt_iff_lt_mul (by omega), Nat.add_mul]
 omega

end Go.Proofs.YtfcpkdafkmohkaaGreatDoor
namespace Go.Proofs.YtfcpkdafkmohkaaGreatDoor
open Go.RowKit
theorem results_cell_one {fn : Func} {p : Tmp} {ty : TypeId} (h : fn.results = #[.cell p ty]) (tmps : Array Value) (P : Program) (w : World) (a : Addr) (v : Value) (ha : tmps.getD p undef = .pointer (some a)) (hl : (loadVar ty a).run P w = .ok v w) : (results fn tmps).run P w = .ok v w := by
 simp only [results, h]
 simp [-Array.getD_eq_getD_getElem?, ha, asAddr, hl]
def Rv (w : World) (g : Nat) (a : Array Value) : Prop := w.heap[g]? = some (.cells a 91 (0, 0))
def zq : Array Value := #[.int .u64 0, .bool false, .int .u64 0, .int .u64 0]
set_option maxRecDepth 100000 in
set_option maxHeartbeats 3000000 in
theorem tspan_one {w : World} {A : Option Addr} {n c m bt bw q H L M : Nat} {two ten x1 x2 last x3 x4 x5 bI : Int} {hE lE mE ev : Bool} (hA : NV w A n c m)
    (C1 : Hid (∀ W, NV W A n c m → Cq 156 #[.slice A n c] (.int .i64 (bt : Nat)) W))
    (C2 : Hid (∀ W, NV W A n c m → Cp 157 #[.slice A n c, .int .i64 x4] W (NOk q W)))
    (C3 : Hid (∀ W, Cp 110 #[.int .u64 bI] W (NRet bw W)))
    (C4 : Hid (∀ W A1 n1 c1 A2 n2 c2, NV W A1 n1 c1 q → NV W A2 n2 c2 bw → Cp 158 #[.slice A1 n1 c1, .slice A2 n2 c2] W (NOk (q - bw) W)))
    (C5 : Hid (∀ W, Cp 110 #[.int .u64 2] W (NRet 2 W)))
    (C6 : Hid (∀ W A1 n1 c1 A2 n2 c2, NV W A1 n1 c1 q → NV W A2 n2 c2 2 → Cp 124 #[.slice A1 n1 c1, .slice A2 n2 c2] W (NOk (q + 2) W)))
    (S1 : Hid (∀ W A1 n1 c1, NV W A1 n1 c1 q → Cp 123 #[.slice A1 n1 c1, .int .i64 x5, .int .i64 ten] W fun e w' => ∃ A3 n3 c3, e = .returned (.tuple #[.slice A3 n3 c3, .bool hE]) ∧ NV w' A3 n3 c3 H ∧ Below W.heap.size W w'))
    (S2 : Hid (∀ W A1 n1 c1, NV W A1 n1 c1 (q - bw) → Cp 123 #[.slice A1 n1 c1, .int .i64 x5, .int .i64 ten] W fun e w' => ∃ A3 n3 c3, e = .returned (.tuple #[.slice A3 n3 c3, .bool lE]) ∧ NV w' A3 n3 c3 L ∧ Below W.heap.size W w'))
    (S3 : Hid (∀ W A1 n1 c1, NV W A1 n1 c1 (q + 2) → Cp 123 #[.slice A1 n1 c1, .int .i64 x5, .int .i64 ten] W fun e w' => ∃ A3 n3 c3, e = .returned (.tuple #[.slice A3 n3 c3, .bool mE]) ∧ NV w' A3 n3 c3 M ∧ Below W.heap.size W w'))
    (hH : H < 18446744073709551616) (hL : L < 9223372036854775808) (hM : M < 9223372036854775808) (hM0 : 0 < M)
    (k1 : wrap64 ((bt : Int) + two) = x1) (k2 : wrap64 (x1 - 53) = x2) (hmax : max x2 (-1074) = last) (k3 : wrap64 (two - last) = x3) (k4 : wrap64 (x3 + 2) = x4) (k5 : wrap64 (last - 2) = x5)
    (hb : bt = 1 ∧ -1074 < last ∧ bI = 1) (hev : decide (last < two) = ev) :
    Ct 95 #[.slice A n c, .int .i64 two, .int .i64 ten] (.agg #[.int .u64 (H : Nat), .bool hE, .int .u64 ((if lE = true ∧ ev = true then L else L + 1 : Nat) : Nat), .int .u64 ((if mE = true ∧ ev = false then M - 1 else M : Nat) : Nat)]) w := by
  have W1 := Lib.hid (fun W A1 n1 c1 (h : NV W A1 n1 c1 H) => tword_any h hH)
  have W2 := Lib.hid (fun W A1 n1 c1 (h : NV W A1 n1 c1 L) => tword_any h (by omega))
  have W3 := Lib.hid (fun W A1 n1 c1 (h : NV W A1 n1 c1 M) => tword_any h (by omega))
  have HA := Lib.hid hA
  have HEV := Lib.hid hev
  have l1 : (L : Int) < 9223372036854775808 := by omega
  have l2 : (M : Int) < 9223372036854775808 := by omega
  have l3 : (0 : Int) < (M : Int) := by omega
  clear hA hH hL hM hM0 hev
  obtain ⟨hbt, hl, rfl⟩ := hb
  all_goals
    first | have tb : ((bt : Int) == 1) = false := by rw [beq_eq_false_iff_ne]; omega
          | have tb : ((bt : Int) == 1) = true := by rw [beq_iff_eq]; omega
    clear hbt
    have HA := Lib.hid (HA.out.step (show Below w.heap.size w (w.alloc (.cells zq 91)) from (Below.refl _ _).alloc (Nat.le_refl _) _))
    have B0 := Lib.hid (show Below w.heap.size w (w.alloc (.cells zq 91)) from (Below.refl _ _).alloc (Nat.le_refl _) _)
    have R0 := Lib.hid (show Rv (w.alloc (.cells zq 91)) w.heap.size zq from heap_alloc_last w _)
    have S0 := Lib.hid (show w.heap.size < (w.alloc (.cells zq 91)).heap.size from by simp)
    unfold zq at HA B0 R0 S0
    go_enter Tryz.func95, Tryz.ntmps95
    go_wp2_with fail
    generalize w.alloc (.cells #[.int .u64 0, .bool false, .int .u64 0, .int .u64 0] 91) = w0 at *
    refine (C1.out _ HA.out).mono ?_
    rintro e w' ⟨rfl, rfl⟩
    go_wp2_with fail
    refine (C2.out _ HA.out).mono ?_
    rintro e w1 ⟨A1, n1, c1, rfl, g1, b1⟩
    have G1 := Lib.hid g1
    have G0 := Lib.hid (HA.out.step b1)
    have B1 := Lib.hid (b1)
    clear g1 b1 hmax k1 k2 k3 k4
    go_wp2_with fail
    refine (C1.out _ G0.out).mono ?_
    rintro e w' ⟨rfl, rfl⟩
    go_wp2_with fail
    refine (C3.out _).mono ?_
    rintro e w2 ⟨A2, n2, c2, rfl, g2, b2⟩
    have G2 := Lib.hid g2
    have G1 := Lib.hid (G1.out.step b2)
    have B2 := Lib.hid (below_le B1.out b2)
    clear g2 b2
    go_wp2_with fail
    refine (C4.out _ _ _ _ _ _ _ G1.out G2.out).mono ?_
    rintro e w3 ⟨A3, n3, c3, rfl, g3, b3⟩
    have G3 := Lib.hid g3
    have G1 := Lib.hid (G1.out.step b3)
    have B3 := Lib.hid (below_le B2.out b3)
    clear g3 b3
    go_wp2_with fail
    refine (C5.out _).mono ?_
    rintro e w4 ⟨A4, n4, c4, rfl, g4, b4⟩
    have G4 := Lib.hid g4
    have G1 := Lib.hid (G1.out.step b4)
    have G3 := Lib.hid (G3.out.step b4)
    have B4 := Lib.hid (below_le B3.out b4)
    clear g4 b4
    go_wp2_with fail
    refine (C6.out _ _ _ _ _ _ _ G1.out G4.out).mono ?_
    rintro e w5 ⟨A5, n5, c5, rfl, g5, b5⟩
    have G5 := Lib.hid g5
    have G1 := Lib.hid (G1.out.step b5)
    have G3 := Lib.hid (G3.out.step b5)
    have B5 := Lib.hid (below_le B4.out b5)
    clear g5 b5
    go_wp2_with fail
    refine (S1.out _ _ _ _ G1.out).mono ?_
    rintro e w6 ⟨A6, n6, c6, rfl, g6, b6⟩
    have G6 := Lib.hid g6
    have G5 := Lib.hid (G5.out.step b6)
    have G3 := Lib.hid (G3.out.step b6)
    have B6 := Lib.hid (below_le B5.out b6)
    clear g6 b6
    go_wp2_with fail
    refine (S2.out _ _ _ _ G3.out).mono ?_
    rintro e w7 ⟨A7, n7, c7, rfl, g7, b7⟩
    have G7 := Lib.hid g7
    have G5 := Lib.hid (G5.out.step b7)
    have G6 := Lib.hid (G6.out.step b7)
    have B7 := Lib.hid (below_le B6.out b7)
    clear g7 b7
    go_wp2_with fail
    refine (S3.out _ _ _ _ G5.out).mono ?_
    rintro e w8 ⟨A8, n8, c8, rfl, g8, b8⟩
    have G8 := Lib.hid g8
    have G7 := Lib.hid (G7.out.step b8)
    have G6 := Lib.hid (G6.out.step b8)
    have B8 := Lib.hid (below_le B7.out b8)
    clear g8 b8 C1 C2 C3 C4 C5 C6 S1 S2 S3
    go_wp2_with fail
    refine (W1.out _ _ _ _ G6.out).mono ?_
    rintro e w' ⟨rfl, rfl⟩
    go_wp2_with fail
    refine (W2.out _ _ _ _ G7.out).mono ?_
    rintro e w' ⟨rfl, rfl⟩
    go_wp2_with fail
    refine (W3.out _ _ _ _ G8.out).mono ?_
    rintro e w' ⟨rfl, rfl⟩
    have HG := Lib.hid (fun c' => show (w8.alloc (.cells c' 91)).heap[w.heap.size]? = some (.cells #[.int .u64 0, .bool false, .int .u64 0, .int .u64 0] 91 (0, 0)) from by
      have hlt : w.heap.size < w8.heap.size := Nat.lt_of_lt_of_le S0.out B8.out.size
      have b1 : Below w8.heap.size w8 (w8.alloc (.cells c' 91)) := (Below.refl _ _).alloc (Nat.le_refl _) _
      exact (b1.block _ hlt).trans ((B8.out.block _ S0.out).trans R0.out))
    have HB := Lib.hid (fun c' => show Below w.heap.size w (w8.alloc (.cells c' 91)) from by
      have b2 := below_le B0.out B8.out
      exact b2.alloc b2.size _)
    have he := HEV.out
    have hL1 : IntKind.u64.wrap ((L : Int) + 1) = ((L + 1 : Nat) : Int) := by rw [IntKind.wrap_u64]; omega
    have hM1 : IntKind.u64.wrap ((M : Int) - 1) = ((M - 1 : Nat) : Int) := by rw [IntKind.wrap_u64]; omega
    clear W1 W2 W3 G6 G7 G8 k5 HA HEV
    first | clear hl | skip
    clear tb l1 l2 l3 B0 B1 B2 B3 B4 B5 B6 B7 B8 S0 R0 G1 G5 G3 G0
    cases ev <;> cases lE <;> cases mE
    all_goals
      go_wp2_with (first | (refine wpList_store_row rfl 91 _ _ rfl w.heap.size _ rfl rfl 91 #[.int .u64 0, .bool false, .int .u64 0, .int .u64 0] (HG.out _) (by first | kernel_rfl | rfl) rfl (by first | kernel_rfl | rfl) ?_))
    all_goals
      exact bodyPost_ret (results_cell_one rfl _ _ _ _ _ rfl (run_loadVar_row _ w.heap.size 91 91 _ (0, 0) _ (setRow_heap _ _ _ _ _ _ (HG.out _)) Tryz.underlying91 rfl (by first | kernel_rfl | rfl))) rfl ⟨rfl, below_setRow' (HB.out _) (Nat.le_refl _) _⟩
set_option maxRecDepth 100000 in
set_option maxHeartbeats 3000000 in
theorem tspan_more {w : World} {A : Option Addr} {n c m bt bw q H L M : Nat} {two ten x1 x2 last x3 x4 x5 bI : Int} {hE lE mE ev : Bool} (hA : NV w A n c m)
    (C1 : Hid (∀ W, NV W A n c m → Cq 156 #[.slice A n c] (.int .i64 (bt : Nat)) W))
    (C2 : Hid (∀ W, NV W A n c m → Cp 157 #[.slice A n c, .int .i64 x4] W (NOk q W)))
    (C3 : Hid (∀ W, Cp 110 #[.int .u64 bI] W (NRet bw W)))
    (C4 : Hid (∀ W A1 n1 c1 A2 n2 c2, NV W A1 n1 c1 q → NV W A2 n2 c2 bw → Cp 158 #[.slice A1 n1 c1, .slice A2 n2 c2] W (NOk (q - bw) W)))
    (C5 : Hid (∀ W, Cp 110 #[.int .u64 2] W (NRet 2 W)))
    (C6 : Hid (∀ W A1 n1 c1 A2 n2 c2, NV W A1 n1 c1 q → NV W A2 n2 c2 2 → Cp 124 #[.slice A1 n1 c1, .slice A2 n2 c2] W (NOk (q + 2) W)))
    (S1 : Hid (∀ W A1 n1 c1, NV W A1 n1 c1 q → Cp 123 #[.slice A1 n1 c1, .int .i64 x5, .int .i64 ten] W fun e w' => ∃ A3 n3 c3, e = .returned (.tuple #[.slice A3 n3 c3, .bool hE]) ∧ NV w' A3 n3 c3 H ∧ Below W.heap.size W w'))
    (S2 : Hid (∀ W A1 n1 c1, NV W A1 n1 c1 (q - bw) → Cp 123 #[.slice A1 n1 c1, .int .i64 x5, .int .i64 ten] W fun e w' => ∃ A3 n3 c3, e = .returned (.tuple #[.slice A3 n3 c3, .bool lE]) ∧ NV w' A3 n3 c3 L ∧ Below W.heap.size W w'))
    (S3 : Hid (∀ W A1 n1 c1, NV W A1 n1 c1 (q + 2) → Cp 123 #[.slice A1 n1 c1, .int .i64 x5, .int .i64 ten] W fun e w' => ∃ A3 n3 c3, e = .returned (.tuple #[.slice A3 n3 c3, .bool mE]) ∧ NV w' A3 n3 c3 M ∧ Below W.heap.size W w'))
    (hH : H < 18446744073709551616) (hL : L < 9223372036854775808) (hM : M < 9223372036854775808) (hM0 : 0 < M)
    (k1 : wrap64 ((bt : Int) + two) = x1) (k2 : wrap64 (x1 - 53) = x2) (hmax : max x2 (-1074) = last) (k3 : wrap64 (two - last) = x3) (k4 : wrap64 (x3 + 2) = x4) (k5 : wrap64 (last - 2) = x5)
    (hb : bt ≠ 1 ∧ bI = 2) (hev : decide (last < two) = ev) :
    Ct 95 #[.slice A n c, .int .i64 two, .int .i64 ten] (.agg #[.int .u64 (H : Nat), .bool hE, .int .u64 ((if lE = true ∧ ev = true then L else L + 1 : Nat) : Nat), .int .u64 ((if mE = true ∧ ev = false then M - 1 else M : Nat) : Nat)]) w := by
  have W1 := Lib.hid (fun W A1 n1 c1 (h : NV W A1 n1 c1 H) => tword_any h hH)
  have W2 := Lib.hid (fun W A1 n1 c1 (h : NV W A1 n1 c1 L) => tword_any h (by omega))
  have W3 := Lib.hid (fun W A1 n1 c1 (h : NV W A1 n1 c1 M) => tword_any h (by omega))
  have HA := Lib.hid hA
  have HEV := Lib.hid hev
  have l1 : (L : Int) < 9223372036854775808 := by omega
  have l2 : (M : Int) < 9223372036854775808 := by omega
  have l3 : (0 : Int) < (M : Int) := by omega
  clear hA hH hL hM hM0 hev
  obtain ⟨hbt, rfl⟩ := hb
  all_goals
    first | have tb : ((bt : Int) == 1) = false := by rw [beq_eq_false_iff_ne]; omega
          | have tb : ((bt : Int) == 1) = true := by rw [beq_iff_eq]; omega
    clear hbt
    have HA := Lib.hid (HA.out.step (show Below w.heap.size w (w.alloc (.cells zq 91)) from (Below.refl _ _).alloc (Nat.le_refl _) _))
    have B0 := Lib.hid (show Below w.heap.size w (w.alloc (.cells zq 91)) from (Below.refl _ _).alloc (Nat.le_refl _) _)
    have R0 := Lib.hid (show Rv (w.alloc (.cells zq 91)) w.heap.size zq from heap_alloc_last w _)
    have S0 := Lib.hid (show w.heap.size < (w.alloc (.cells zq 91)).heap.size from by simp)
    unfold zq at HA B0 R0 S0
    go_enter Tryz.func95, Tryz.ntmps95
    go_wp2_with fail
    generalize w.alloc (.cells #[.int .u64 0, .bool false, .int .u64 0, .int .u64 0] 91) = w0 at *
    refine (C1.out _ HA.out).mono ?_
    rintro e w' ⟨rfl, rfl⟩
    go_wp2_with fail
    refine (C2.out _ HA.out).mono ?_
    rintro e w1 ⟨A1, n1, c1, rfl, g1, b1⟩
    have G1 := Lib.hid g1
    have G0 := Lib.hid (HA.out.step b1)
    have B1 := Lib.hid (b1)
    clear g1 b1 hmax k1 k2 k3 k4
    go_wp2_with fail
    refine (C1.out _ G0.out).mono ?_
    rintro e w' ⟨rfl, rfl⟩
    go_wp2_with fail
    refine (C3.out _).mono ?_
    rintro e w2 ⟨A2, n2, c2, rfl, g2, b2⟩
    have G2 := Lib.hid g2
    have G1 := Lib.hid (G1.out.step b2)
    have B2 := Lib.hid (below_le B1.out b2)
    clear g2 b2
    go_wp2_with fail
    refine (C4.out _ _ _ _ _ _ _ G1.out G2.out).mono ?_
    rintro e w3 ⟨A3, n3, c3, rfl, g3, b3⟩
    have G3 := Lib.hid g3
    have G1 := Lib.hid (G1.out.step b3)
    have B3 := Lib.hid (below_le B2.out b3)
    clear g3 b3
    go_wp2_with fail
    refine (C5.out _).mono ?_
    rintro e w4 ⟨A4, n4, c4, rfl, g4, b4⟩
    have G4 := Lib.hid g4
    have G1 := Lib.hid (G1.out.step b4)
    have G3 := Lib.hid (G3.out.step b4)
    have B4 := Lib.hid (below_le B3.out b4)
    clear g4 b4
    go_wp2_with fail
    refine (C6.out _ _ _ _ _ _ _ G1.out G4.out).mono ?_
    rintro e w5 ⟨A5, n5, c5, rfl, g5, b5⟩
    have G5 := Lib.hid g5
    have G1 := Lib.hid (G1.out.step b5)
    have G3 := Lib.hid (G3.out.step b5)
    have B5 := Lib.hid (below_le B4.out b5)
    clear g5 b5
    go_wp2_with fail
    refine (S1.out _ _ _ _ G1.out).mono ?_
    rintro e w6 ⟨A6, n6, c6, rfl, g6, b6⟩
    have G6 := Lib.hid g6
    have G5 := Lib.hid (G5.out.step b6)
    have G3 := Lib.hid (G3.out.step b6)
    have B6 := Lib.hid (below_le B5.out b6)
    clear g6 b6
    go_wp2_with fail
    refine (S2.out _ _ _ _ G3.out).mono ?_
    rintro e w7 ⟨A7, n7, c7, rfl, g7, b7⟩
    have G7 := Lib.hid g7
    have G5 := Lib.hid (G5.out.step b7)
    have G6 := Lib.hid (G6.out.step b7)
    have B7 := Lib.hid (below_le B6.out b7)
    clear g7 b7
    go_wp2_with fail
    refine (S3.out _ _ _ _ G5.out).mono ?_
    rintro e w8 ⟨A8, n8, c8, rfl, g8, b8⟩
    have G8 := Lib.hid g8
    have G7 := Lib.hid (G7.out.step b8)
    have G6 := Lib.hid (G6.out.step b8)
    have B8 := Lib.hid (below_le B7.out b8)
    clear g8 b8 C1 C2 C3 C4 C5 C6 S1 S2 S3
    go_wp2_with fail
    refine (W1.out _ _ _ _ G6.out).mono ?_
    rintro e w' ⟨rfl, rfl⟩
    go_wp2_with fail
    refine (W2.out _ _ _ _ G7.out).mono ?_
    rintro e w' ⟨rfl, rfl⟩
    go_wp2_with fail
    refine (W3.out _ _ _ _ G8.out).mono ?_
    rintro e w' ⟨rfl, rfl⟩
    have HG := Lib.hid (fun c' => show (w8.alloc (.cells c' 91)).heap[w.heap.size]? = some (.cells #[.int .u64 0, .bool false, .int .u64 0, .int .u64 0] 91 (0, 0)) from by
      have hlt : w.heap.size < w8.heap.size := Nat.lt_of_lt_of_le S0.out B8.out.size
      have b1 : Below w8.heap.size w8 (w8.alloc (.cells c' 91)) := (Below.refl _ _).alloc (Nat.le_refl _) _
      exact (b1.block _ hlt).trans ((B8.out.block _ S0.out).trans R0.out))
    have HB := Lib.hid (fun c' => show Below w.heap.size w (w8.alloc (.cells c' 91)) from by
      have b2 := below_le B0.out B8.out
      exact b2.alloc b2.size _)
    have he := HEV.out
    have hL1 : IntKind.u64.wrap ((L : Int) + 1) = ((L + 1 : Nat) : Int) := by rw [IntKind.wrap_u64]; omega
    have hM1 : IntKind.u64.wrap ((M : Int) - 1) = ((M - 1 : Nat) : Int) := by rw [IntKind.wrap_u64]; omega
    clear W1 W2 W3 G6 G7 G8 k5 HA HEV
    first | clear hl | skip
    clear tb l1 l2 l3 B0 B1 B2 B3 B4 B5 B6 B7 B8 S0 R0 G1 G5 G3 G0
    cases ev <;> cases lE <;> cases mE
    all_goals
      go_wp2_with (first | (refine wpList_store_row rfl 91 _ _ rfl w.heap.size _ rfl rfl 91 #[.int .u64 0, .bool false, .int .u64 0, .int .u64 0] (HG.out _) (by first | kernel_rfl | rfl) rfl (by first | kernel_rfl | rfl) ?_))
    all_goals
      exact bodyPost_ret (results_cell_one rfl _ _ _ _ _ rfl (run_loadVar_row _ w.heap.size 91 91 _ (0, 0) _ (setRow_heap _ _ _ _ _ _ (HG.out _)) Tryz.underlying91 rfl (by first | kernel_rfl | rfl))) rfl ⟨rfl, below_setRow' (HB.out _) (Nat.le_refl _) _⟩

end Go.Proofs.YtfcpkdafkmohkaaGreatDoor
namespace Go.Proofs.YtfcpkdafkmohkaaGreatDoor
open Go.RowKit
set_option maxRecDepth 100000 in
set_option maxHeartbeats 3000000 in
theorem tspan_low {w : World} {A : Option Addr} {n c m bt bw q H L M : Nat} {two ten x1 x2 last x3 x4 x5 bI : Int} {hE lE mE ev : Bool} (hA : NV w A n c m)
    (C1 : Hid (∀ W, NV W A n c m → Cq 156 #[.slice A n c] (.int .i64 (bt : Nat)) W))
    (C2 : Hid (∀ W, NV W A n c m → Cp 157 #[.slice A n c, .int .i64 x4] W (NOk q W)))
    (C3 : Hid (∀ W, Cp 110 #[.int .u64 bI] W (NRet bw W)))
    (C4 : Hid (∀ W A1 n1 c1 A2 n2 c2, NV W A1 n1 c1 q → NV W A2 n2 c2 bw → Cp 158 #[.slice A1 n1 c1, .slice A2 n2 c2] W (NOk (q - bw) W)))
    (C5 : Hid (∀ W, Cp 110 #[.int .u64 2] W (NRet 2 W)))
    (C6 : Hid (∀ W A1 n1 c1 A2 n2 c2, NV W A1 n1 c1 q → NV W A2 n2 c2 2 → Cp 124 #[.slice A1 n1 c1, .slice A2 n2 c2] W (NOk (q + 2) W)))
    (S1 : Hid (∀ W A1 n1 c1, NV W A1 n1 c1 q → Cp 123 #[.slice A1 n1 c1, .int .i64 x5, .int .i64 ten] W fun e w' => ∃ A3 n3 c3, e = .returned (.tuple #[.slice A3 n3 c3, .bool hE]) ∧ NV w' A3 n3 c3 H ∧ Below W.heap.size W w'))
    (S2 : Hid (∀ W A1 n1 c1, NV W A1 n1 c1 (q - bw) → Cp 123 #[.slice A1 n1 c1, .int .i64 x5, .int .i64 ten] W fun e w' => ∃ A3 n3 c3, e = .returned (.tuple #[.slice A3 n3 c3, .bool lE]) ∧ NV w' A3 n3 c3 L ∧ Below W.heap.size W w'))
    (S3 : Hid (∀ W A1 n1 c1, NV W A1 n1 c1 (q + 2) → Cp 123 #[.slice A1 n1 c1, .int .i64 x5, .int .i64 ten] W fun e w' => ∃ A3 n3 c3, e = .returned (.tuple #[.slice A3 n3 c3, .bool mE]) ∧ NV w' A3 n3 c3 M ∧ Below W.heap.size W w'))
    (hH : H < 18446744073709551616) (hL : L < 9223372036854775808) (hM : M < 9223372036854775808) (hM0 : 0 < M)
    (k1 : wrap64 ((bt : Int) + two) = x1) (k2 : wrap64 (x1 - 53) = x2) (hmax : max x2 (-1074) = last) (k3 : wrap64 (two - last) = x3) (k4 : wrap64 (x3 + 2) = x4) (k5 : wrap64 (last - 2) = x5)
    (hb : bt = 1 ∧ decide (-1074 < last) = false ∧ bI = 2) (hev : decide (last < two) = ev) :
    Ct 95 #[.slice A n c, .int .i64 two, .int .i64 ten] (.agg #[.int .u64 (H : Nat), .bool hE, .int .u64 ((if lE = true ∧ ev = true then L else L + 1 : Nat) : Nat), .int .u64 ((if mE = true ∧ ev = false then M - 1 else M : Nat) : Nat)]) w := by
  have W1 := Lib.hid (fun W A1 n1 c1 (h : NV W A1 n1 c1 H) => tword_any h hH)
  have W2 := Lib.hid (fun W A1 n1 c1 (h : NV W A1 n1 c1 L) => tword_any h (by omega))
  have W3 := Lib.hid (fun W A1 n1 c1 (h : NV W A1 n1 c1 M) => tword_any h (by omega))
  have HA := Lib.hid hA
  have HEV := Lib.hid hev
  have l1 : (L : Int) < 9223372036854775808 := by omega
  have l2 : (M : Int) < 9223372036854775808 := by omega
  have l3 : (0 : Int) < (M : Int) := by omega
  clear hA hH hL hM hM0 hev
  obtain ⟨hbt, hl, rfl⟩ := hb
  all_goals
    first | have tb : ((bt : Int) == 1) = false := by rw [beq_eq_false_iff_ne]; omega
          | have tb : ((bt : Int) == 1) = true := by rw [beq_iff_eq]; omega
    clear hbt
    have HA := Lib.hid (HA.out.step (show Below w.heap.size w (w.alloc (.cells zq 91)) from (Below.refl _ _).alloc (Nat.le_refl _) _))
    have B0 := Lib.hid (show Below w.heap.size w (w.alloc (.cells zq 91)) from (Below.refl _ _).alloc (Nat.le_refl _) _)
    have R0 := Lib.hid (show Rv (w.alloc (.cells zq 91)) w.heap.size zq from heap_alloc_last w _)
    have S0 := Lib.hid (show w.heap.size < (w.alloc (.cells zq 91)).heap.size from by simp)
    unfold zq at HA B0 R0 S0
    go_enter Tryz.func95, Tryz.ntmps95
    go_wp2_with fail
    generalize w.alloc (.cells #[.int .u64 0, .bool false, .int .u64 0, .int .u64 0] 91) = w0 at *
    refine (C1.out _ HA.out).mono ?_
    rintro e w' ⟨rfl, rfl⟩
    go_wp2_with fail
    refine (C2.out _ HA.out).mono ?_
    rintro e w1 ⟨A1, n1, c1, rfl, g1, b1⟩
    have G1 := Lib.hid g1
    have G0 := Lib.hid (HA.out.step b1)
    have B1 := Lib.hid (b1)
    clear g1 b1 hmax k1 k2 k3 k4
    go_wp2_with fail
    refine (C1.out _ G0.out).mono ?_
    rintro e w' ⟨rfl, rfl⟩
    go_wp2_with fail
    refine (C3.out _).mono ?_
    rintro e w2 ⟨A2, n2, c2, rfl, g2, b2⟩
    have G2 := Lib.hid g2
    have G1 := Lib.hid (G1.out.step b2)
    have B2 := Lib.hid (below_le B1.out b2)
    clear g2 b2
    go_wp2_with fail
    refine (C4.out _ _ _ _ _ _ _ G1.out G2.out).mono ?_
    rintro e w3 ⟨A3, n3, c3, rfl, g3, b3⟩
    have G3 := Lib.hid g3
    have G1 := Lib.hid (G1.out.step b3)
    have B3 := Lib.hid (below_le B2.out b3)
    clear g3 b3
    go_wp2_with fail
    refine (C5.out _).mono ?_
    rintro e w4 ⟨A4, n4, c4, rfl, g4, b4⟩
    have G4 := Lib.hid g4
    have G1 := Lib.hid (G1.out.step b4)
    have G3 := Lib.hid (G3.out.step b4)
    have B4 := Lib.hid (below_le B3.out b4)
    clear g4 b4
    go_wp2_with fail
    refine (C6.out _ _ _ _ _ _ _ G1.out G4.out).mono ?_
    rintro e w5 ⟨A5, n5, c5, rfl, g5, b5⟩
    have G5 := Lib.hid g5
    have G1 := Lib.hid (G1.out.step b5)
    have G3 := Lib.hid (G3.out.step b5)
    have B5 := Lib.hid (below_le B4.out b5)
    clear g5 b5
    go_wp2_with fail
    refine (S1.out _ _ _ _ G1.out).mono ?_
    rintro e w6 ⟨A6, n6, c6, rfl, g6, b6⟩
    have G6 := Lib.hid g6
    have G5 := Lib.hid (G5.out.step b6)
    have G3 := Lib.hid (G3.out.step b6)
    have B6 := Lib.hid (below_le B5.out b6)
    clear g6 b6
    go_wp2_with fail
    refine (S2.out _ _ _ _ G3.out).mono ?_
    rintro e w7 ⟨A7, n7, c7, rfl, g7, b7⟩
    have G7 := Lib.hid g7
    have G5 := Lib.hid (G5.out.step b7)
    have G6 := Lib.hid (G6.out.step b7)
    have B7 := Lib.hid (below_le B6.out b7)
    clear g7 b7
    go_wp2_with fail
    refine (S3.out _ _ _ _ G5.out).mono ?_
    rintro e w8 ⟨A8, n8, c8, rfl, g8, b8⟩
    have G8 := Lib.hid g8
    have G7 := Lib.hid (G7.out.step b8)
    have G6 := Lib.hid (G6.out.step b8)
    have B8 := Lib.hid (below_le B7.out b8)
    clear g8 b8 C1 C2 C3 C4 C5 C6 S1 S2 S3
    go_wp2_with fail
    refine (W1.out _ _ _ _ G6.out).mono ?_
    rintro e w' ⟨rfl, rfl⟩
    go_wp2_with fail
    refine (W2.out _ _ _ _ G7.out).mono ?_
    rintro e w' ⟨rfl, rfl⟩
    go_wp2_with fail
    refine (W3.out _ _ _ _ G8.out).mono ?_
    rintro e w' ⟨rfl, rfl⟩
    have HG := Lib.hid (fun c' => show (w8.alloc (.cells c' 91)).heap[w.heap.size]? = some (.cells #[.int .u64 0, .bool false, .int .u64 0, .int .u64 0] 91 (0, 0)) from by
      have hlt : w.heap.size < w8.heap.size := Nat.lt_of_lt_of_le S0.out B8.out.size
      have b1 : Below w8.heap.size w8 (w8.alloc (.cells c' 91)) := (Below.refl _ _).alloc (Nat.le_refl _) _
      exact (b1.block _ hlt).trans ((B8.out.block _ S0.out).trans R0.out))
    have HB := Lib.hid (fun c' => show Below w.heap.size w (w8.alloc (.cells c' 91)) from by
      have b2 := below_le B0.out B8.out
      exact b2.alloc b2.size _)
    have he := HEV.out
    have hL1 : IntKind.u64.wrap ((L : Int) + 1) = ((L + 1 : Nat) : Int) := by rw [IntKind.wrap_u64]; omega
    have hM1 : IntKind.u64.wrap ((M : Int) - 1) = ((M - 1 : Nat) : Int) := by rw [IntKind.wrap_u64]; omega
    clear W1 W2 W3 G6 G7 G8 k5 HA HEV
    first | clear hl | skip
    clear tb l1 l2 l3 B0 B1 B2 B3 B4 B5 B6 B7 B8 S0 R0 G1 G5 G3 G0
    cases ev <;> cases lE <;> cases mE
    all_goals
      go_wp2_with (first | (refine wpList_store_row rfl 91 _ _ rfl w.heap.size _ rfl rfl 91 #[.int .u64 0, .bool false, .int .u64 0, .int .u64 0] (HG.out _) (by first | kernel_rfl | rfl) rfl (by first | kernel_rfl | rfl) ?_))
    all_goals
      exact bodyPost_ret (results_cell_one rfl _ _ _ _ _ rfl (run_loadVar_row _ w.heap.size 91 91 _ (0, 0) _ (setRow_heap _ _ _ _ _ _ (HG.out _)) Tryz.underlying91 rfl (by first | kernel_rfl | rfl))) rfl ⟨rfl, below_setRow' (HB.out _) (Nat.le_refl _) _⟩

end Go.Proofs.YtfcpkdafkmohkaaGreatDoor
namespace Go.Proofs.YtfcpkdafkmohkaaGreatDoor
open Go.RowKit
theorem below_al (w : World) (o : Obj) : Below w.heap.size w (w.alloc o) := (Below.refl _ _).alloc (Nat.le_refl _) _
set_option maxRecDepth 100000 in
set_option maxHeartbeats 1000000 in
theorem tnearer_other (H L M down unit D h : Nat) (hE : Bool) (w : World) (hD : H - down = D) (hd : down ≤ H) (hH : H < 9223372036854775808) (hU : unit < 9223372036854775808) (hu : unit / 2 = h) (hne : D ≠ h) :
  Ct 160 #[.agg #[.int .u64 (H : Nat), .bool hE, .int .u64 (L : Nat), .int .u64 (M : Nat)], .int .u64 (down : Nat), .int .u64 (unit : Nat)] (.bool (decide ((D : Int) < (h : Int)))) w := by
 have k1 : IntKind.u64.wrap ((H : Int) - (down : Int)) = (D : Int) := by rw [IntKind.wrap_u64]; omega
 have k2 : (unit : Int) / 2 = (h : Int) := by omega
 have k3 : IntKind.u64.wrap (h : Int) = (h : Int) := by rw [IntKind.wrap_u64]; omega
 have t1 : ((D : Int) != (h : Int)) = true := by rw [bne_iff_ne]; omega
 clear hD hd hH hu hne hU
 go_enter Tryz.func160, Tryz.ntmps160
 go_wp2
 go_ret
 exact ⟨by simp, below_al _ _⟩
set_option maxRecDepth 100000 in
set_option maxHeartbeats 1000000 in
theorem tnearer_more (H L M down unit D h : Nat) (w : World) (hD : H - down = D) (hd : down ≤ H) (hU : unit < 9223372036854775808) (hu : unit / 2 = h) (hne : D = h) :
  Ct 160 #[.agg #[.int .u64 (H : Nat), .bool false, .int .u64 (L : Nat), .int .u64 (M : Nat)], .int .u64 (down : Nat), .int .u64 (unit : Nat)] (.bool false) w := by
 have k1 : IntKind.u64.wrap ((H : Int) - (down : Int)) = (D : Int) := by rw [IntKind.wrap_u64]; omega
 have k2 : (unit : Int) / 2 = (h : Int) := by omega
 have k3 : IntKind.u64.wrap (h : Int) = (h : Int) := by rw [IntKind.wrap_u64]; omega
 have t1 : ((D : Int) != (h : Int)) = false := by rw [bne_eq_false_iff_eq]; omega
 clear hD hd hu hne hU
 go_enter Tryz.func160, Tryz.ntmps160
 go_wp2
 go_ret
 exact ⟨rfl, below_al _ _⟩
set_option maxRecDepth 100000 in
set_option maxHeartbeats 1000000 in
theorem tnearer_exact (H L M down unit D h q : Nat) (w : World) (hD : H - down = D) (hd : down ≤ H) (hH : H < 9223372036854775808) (hU : unit < 9223372036854775808) (hu : unit / 2 = h) (hne : D = h) (h0 : 0 < unit) (hq : down / unit = q) :
  Ct 160 #[.agg #[.int .u64 (H : Nat), .bool true, .int .u64 (L : Nat), .int .u64 (M : Nat)], .int .u64 (down : Nat), .int .u64 (unit : Nat)] (.bool ((q : Int) % 2 == 0)) w := by
 have k1 : IntKind.u64.wrap ((H : Int) - (down : Int)) = (D : Int) := by rw [IntKind.wrap_u64]; omega
 have k2 : (unit : Int) / 2 = (h : Int) := by omega
 have k3 : IntKind.u64.wrap (h : Int) = (h : Int) := by rw [IntKind.wrap_u64]; omega
 have t1 : ((D : Int) != (h : Int)) = false := by rw [bne_eq_false_iff_eq]; omega
 have k4 : (down : Int) / (unit : Int) = (q : Int) := by rw [← hq]; rfl
 have k5 : IntKind.u64.wrap (q : Int) = (q : Int) := by
  have : q ≤ down := by rw [← hq]; exact Nat.div_le_self _ _
  rw [IntKind.wrap_u64]
  omega
 have k6 : (0 : Int) < (unit : Int) := by omega
 have k7 : ¬ (unit : Int) = 0 := by omega
 clear hD hd hu hne hU h0 hq hH
 go_enter Tryz.func160, Tryz.ntmps160
 go_wp2
 go_ret
 exact ⟨rfl, below_al _ _⟩

end Go.Proofs.YtfcpkdafkmohkaaGreatDoor
namespace Go.Proofs.YtfcpkdafkmohkaaGreatDoor
open Go.RowKit
set_option maxRecDepth 100000 in
set_option maxHeartbeats 1000000 in
theorem ifmt_small (u : Nat) (w : World) (h : u < 100) : Ct 208 #[.int .u64 u, .int .i64 10] (.string ⟨(Lib.decDigits u).toArray⟩) w := by
 have t1 : (u : Int) < 100 := by omega
 have t2 : (u : Int) < 9223372036854775808 := by omega
 go_enter Tryz.func208, Tryz.ntmps208
 go_wp2_with (go_at_call 232; refine (Tryz.internal_strconv_small u h _).mono ?_; rintro e w' ⟨rfl, rfl⟩)
 go_ret
 exact ⟨rfl, Below.refl _ _⟩
open Go.Sort in
set_option maxRecDepth 100000 in
set_option maxHeartbeats 1000000 in
theorem ifmt_big (u : Nat) (w : World) (h : 100 ≤ u) (hu64 : u < 18446744073709551616) (htab : Lib.TabIs Tryz.prog w "internal/strconv.uint64pow10" .u64 Lib.pow10Tab) :
  Ct 208 #[.int .u64 u, .int .i64 10] (.string ⟨(Lib.decDigits u).toArray⟩) w := by
 have hu1 : 1 ≤ u := by omega
 have hnd20 : Lib.nDigits u ≤ 20 := by have := Lib.numDigits_eq u hu1 hu64; split at this <;> omega
 have t1 : ¬ (u : Int) < 100 := by omega
 have hal : Tryz.prog.arrayLen 202 = 24 := by kernel_rfl
 have hsl1 : ∀ W, (Instr.sliceAt 202 (.pointer (some ⟨w.heap.size, 0, none⟩)) none (some (.int .i64 (Lib.nDigits u : Int))) none).run Tryz.prog W = .ok (.slice (some ⟨w.heap.size, 0, none⟩) (Lib.nDigits u) 24) W := fun W => by
  rw [run_sliceAt_array_h W 202 ⟨w.heap.size, 0, none⟩ (by simp [Program.arrayLen, Program.elem, Tryz.underlying202]) .i64 (Lib.nDigits u : Int) (by omega) (by rw [hal]; omega)]
  go_simp
 have hH0 := Lib.holds_zero0 w 202 (Lib.nDigits u) (by omega)
 have hfmt := Tryz.internal_strconv_formatBase10 w.heap.size 0 24 u (Array.replicate (Lib.nDigits u) 0) (w.alloc (.cells Lib.zeros24 202)) hH0 (by rw [Array.size_replicate]; exact Lib.lt_pow_nDigits u) hu64 (by rw [Array.size_replicate]; omega)
 rw [Array.size_replicate] at hfmt
 have HH0 := Lib.hid hH0
 clear hH0 hal h
 go_enter Tryz.func208, Tryz.ntmps208
 go_wp2_with (first
  | (go_at_call 233; refine (Tryz.internal_strconv_numDigits u hu1 hu64 _ (Lib.tabIs_alloc htab _)).mono ?_; rintro e w' ⟨rfl, rfl⟩))
 go_at_call 234
 refine hfmt.mono ?_
 rintro e w' ⟨rfl, k, v', dk, rfl, hF⟩
 have hcv : (convert 85 9 (.slice (some ⟨w.heap.size, 0, none⟩) (Lib.nDigits u) 24)).run Tryz.prog ((putRow (fun (b : UInt8) => Value.int .u8 (b.toNat : Int)) (w.alloc (.cells Lib.zeros24 202)) w.heap.size 0 dk).drewN k) = .ok (.string ⟨(Lib.decDigits u).toArray⟩) ((putRow (fun (b : UInt8) => Value.int .u8 (b.toNat : Int)) (w.alloc (.cells Lib.zeros24 202)) w.heap.size 0 dk).drewN k) := by
  have h := run_convert_bytes_back (P := Tryz.prog) ((putRow (fun (b : UInt8) => Value.int .u8 (b.toNat : Int)) (w.alloc (.cells Lib.zeros24 202)) w.heap.size 0 dk).drewN k) 85 9 5 ⟨w.heap.size, 0, none⟩ 24 (Lib.decDigits u) Tryz.underlying85 Tryz.underlying5 Tryz.underlying9 (fun j hj => by
   rw [Lib.row_is_numeral hF j hj, Lib.add_plain, World.cell?_drewN]
   exact cell?_putRow (fun (b : UInt8) => Value.int .u8 (b.toNat : Int)) _ w.heap.size 0 _ dk HH0.out (by rw [hF.size, Array.size_replicate]) j (by rw [hF.size]; rw [Lib.decDigits_length] at hj; exact hj))
  rw [Lib.decDigits_length] at h
  exact h
 go_wp2
 go_ret
 obtain ⟨os, eo⟩ := Lib.fin_at w (.cells Lib.zeros24 202) dk k 0
 refine ⟨rfl, ?_⟩
 have hb := Lib.below_grow w.heap.size w (Nat.le_refl _) k os
 rw [← eo] at hb
 exact hb
theorem cfmt_any (u : Nat) (w : World) (hu : u < 18446744073709551616) (htab : Lib.TabIs Tryz.prog w "internal/strconv.uint64pow10" .u64 Lib.pow10Tab) :
  Ct 155 #[.int .u64 u, .int .i64 10] (.string (strOf (dL u))) w := by
 have C : Hid (∀ W, W = w → Ct 208 #[.int .u64 u, .int .i64 10] (.string ⟨(Lib.decDigits u).toArray⟩) W) := Lib.hid (fun W hW => by
  subst hW
  rcases Nat.lt_or_ge u 100 with h | h
  ·exact ifmt_small u W h
  ·exact ifmt_big u W h hu htab)
 have he : (⟨(Lib.decDigits u).toArray⟩ : ByteArray) = strOf (dL u) := str_eq rfl
 rw [← he]
 clear he htab hu
 go_enter Tryz.func155, Tryz.ntmps155
 go_wp2_with fail
 refine (C.out _ rfl).mono ?_
 rintro e w1 ⟨rfl, b1⟩
 go_wp2
 go_ret
 exact ⟨rfl, b1⟩

end Go.Proofs.YtfcpkdafkmohkaaGreatDoor
namespace Go.Proofs.YtfcpkdafkmohkaaGreatDoor
open Go.RowKit
set_option maxRecDepth 100000 in
set_option maxHeartbeats 2000000 in
theorem tcand_tt (H L M unit dn up : Nat) (hE : Bool) (w : World) (h0 : 0 < unit) (hd : H - H % unit = dn) (hu : dn + unit = up) (hl : up < 9223372036854775808) (g1 : L ≤ dn) (g2 : up ≤ M)
  (CN : Hid (∀ W, Ct 160 #[.agg #[.int .u64 (H : Nat), .bool hE, .int .u64 (L : Nat), .int .u64 (M : Nat)], .int .u64 (dn : Nat), .int .u64 (unit : Nat)] (.bool true) W)) :
  Ct 96 #[.agg #[.int .u64 (H : Nat), .bool hE, .int .u64 (L : Nat), .int .u64 (M : Nat)], .int .u64 (unit : Nat)] (.tuple #[.int .u64 (dn : Nat), .bool true]) w := by
 obtain ⟨r, hr⟩ : ∃ r, H % unit = r := ⟨_, rfl⟩
 have hrH : r ≤ H := by rw [← hr]; exact Nat.mod_le _ _
 have hru : r < unit := by rw [← hr]; exact Nat.mod_lt _ h0
 rw [hr] at hd
 have k0 := Lib.hid (show (H : Int) % (unit : Int) = (r : Int) by rw [← hr]; rfl)
 have k2 := Lib.hid (show IntKind.u64.wrap ((H : Int) - (r : Int)) = (dn : Int) by rw [IntKind.wrap_u64]; omega)
 have k3 := Lib.hid (show IntKind.u64.wrap ((dn : Int) + (unit : Int)) = (up : Int) by rw [IntKind.wrap_u64]; omega)
 have k6 : (0 : Int) < (unit : Int) := by omega
 have k7 : ¬ (unit : Int) = 0 := by omega
 have t1 := Lib.hid (show decide (L ≤ dn) = true by first | exact decide_eq_true (by omega) | exact decide_eq_false (by omega))
 have t2 := Lib.hid (show decide (up ≤ M) = true by first | exact decide_eq_true (by omega) | exact decide_eq_false (by omega))
 have B0 := Lib.hid (below_al w (.cells #[.int .u64 (H : Nat), .bool hE, .int .u64 (L : Nat), .int .u64 (M : Nat)] 91))
 clear h0 hd hu hl g1 g2 hr hrH hru
 go_enter Tryz.func96, Tryz.ntmps96
 go_wp2
 go_quiet (fail)
 rw [k0.out, k2.out]
 have k3' := k3.out
 go_wp2
 clear k3'
 go_quiet (fail)
 have t1' := t1.out
 have t2' := t2.out
 have BW := Lib.hid (fun q => below_drewN' B0.out q)
 go_wp2_with fail
 refine (CN.out _).mono ?_
 rintro e w1 ⟨rfl, b1⟩
 have B1 := Lib.hid (below_le (BW.out _) b1)
 clear b1
 go_wp2
 go_ret2
 exact ⟨rfl, B1.out⟩
set_option maxRecDepth 100000 in
set_option maxHeartbeats 2000000 in
theorem tcand_tf (H L M unit dn up : Nat) (hE : Bool) (w : World) (h0 : 0 < unit) (hd : H - H % unit = dn) (hu : dn + unit = up) (hl : up < 9223372036854775808) (g1 : L ≤ dn) (g2 : up ≤ M)
  (CN : Hid (∀ W, Ct 160 #[.agg #[.int .u64 (H : Nat), .bool hE, .int .u64 (L : Nat), .int .u64 (M : Nat)], .int .u64 (dn : Nat), .int .u64 (unit : Nat)] (.bool false) W)) :
  Ct 96 #[.agg #[.int .u64 (H : Nat), .bool hE, .int .u64 (L : Nat), .int .u64 (M : Nat)], .int .u64 (unit : Nat)] (.tuple #[.int .u64 (up : Nat), .bool true]) w := by
 obtain ⟨r, hr⟩ : ∃ r, H % unit = r := ⟨_, rfl⟩
 have hrH : r ≤ H := by rw [← hr]; exact Nat.mod_le _ _
 have hru : r < unit := by rw [← hr]; exact Nat.mod_lt _ h0
 rw [hr] at hd
 have k0 := Lib.hid (show (H : Int) % (unit : Int) = (r : Int) by rw [← hr]; rfl)
 have k2 := Lib.hid (show IntKind.u64.wrap ((H : Int) - (r : Int)) = (dn : Int) by rw [IntKind.wrap_u64]; omega)
 have k3 := Lib.hid (show IntKind.u64.wrap ((dn : Int) + (unit : Int)) = (up : Int) by rw [IntKind.wrap_u64]; omega)
 have k6 : (0 : Int) < (unit : Int) := by omega
 have k7 : ¬ (unit : Int) = 0 := by omega
 have t1 := Lib.hid (show decide (L ≤ dn) = true by first | exact decide_eq_true (by omega) | exact decide_eq_false (by omega))
 have t2 := Lib.hid (show decide (up ≤ M) = true by first | exact decide_eq_true (by omega) | exact decide_eq_false (by omega))
 have B0 := Lib.hid (below_al w (.cells #[.int .u64 (H : Nat), .bool hE, .int .u64 (L : Nat), .int .u64 (M : Nat)] 91))
 clear h0 hd hu hl g1 g2 hr hrH hru
 go_enter Tryz.func96, Tryz.ntmps96
 go_wp2
 go_quiet (fail)
 rw [k0.out, k2.out]
 have k3' := k3.out
 go_wp2
 clear k3'
 go_quiet (fail)
 have t1' := t1.out
 have t2' := t2.out
 have BW := Lib.hid (fun q => below_drewN' B0.out q)
 go_wp2_with fail
 refine (CN.out _).mono ?_
 rintro e w1 ⟨rfl, b1⟩
 have B1 := Lib.hid (below_le (BW.out _) b1)
 clear b1
 go_wp2
 go_ret2
 exact ⟨rfl, B1.out⟩
set_option maxRecDepth 100000 in
set_option maxHeartbeats 2000000 in
theorem tcand_down (H L M unit dn up : Nat) (hE : Bool) (w : World) (h0 : 0 < unit) (hd : H - H % unit = dn) (hu : dn + unit = up) (hl : up < 9223372036854775808) (g1 : L ≤ dn) (g2 : ¬ up ≤ M) :
  Ct 96 #[.agg #[.int .u64 (H : Nat), .bool hE, .int .u64 (L : Nat), .int .u64 (M : Nat)], .int .u64 (unit : Nat)] (.tuple #[.int .u64 (dn : Nat), .bool true]) w := by
 obtain ⟨r, hr⟩ : ∃ r, H % unit = r := ⟨_, rfl⟩
 have hrH : r ≤ H := by rw [← hr]; exact Nat.mod_le _ _
 have hru : r < unit := by rw [← hr]; exact Nat.mod_lt _ h0
 rw [hr] at hd
 have k0 := Lib.hid (show (H : Int) % (unit : Int) = (r : Int) by rw [← hr]; rfl)
 have k2 := Lib.hid (show IntKind.u64.wrap ((H : Int) - (r : Int)) = (dn : Int) by rw [IntKind.wrap_u64]; omega)
 have k3 := Lib.hid (show IntKind.u64.wrap ((dn : Int) + (unit : Int)) = (up : Int) by rw [IntKind.wrap_u64]; omega)
 have k6 : (0 : Int) < (unit : Int) := by omega
 have k7 : ¬ (unit : Int) = 0 := by omega
 have t1 := Lib.hid (show decide (L ≤ dn) = true by first | exact decide_eq_true (by omega) | exact decide_eq_false (by omega))
 have t2 := Lib.hid (show decide (up ≤ M) = false by first | exact decide_eq_true (by omega) | exact decide_eq_false (by omega))
 have B0 := Lib.hid (below_al w (.cells #[.int .u64 (H : Nat), .bool hE, .int .u64 (L : Nat), .int .u64 (M : Nat)] 91))
 clear h0 hd hu hl g1 g2 hr hrH hru
 go_enter Tryz.func96, Tryz.ntmps96
 go_wp2
 go_quiet (fail)
 rw [k0.out, k2.out]
 have k3' := k3.out
 go_wp2
 clear k3'
 go_quiet (fail)
 have t1' := t1.out
 have t2' := t2.out
 have BW := Lib.hid (fun q => below_drewN' B0.out q)
 go_wp2
 go_ret2
 exact ⟨rfl, BW.out _⟩
set_option maxRecDepth 100000 in
set_option maxHeartbeats 2000000 in
theorem tcand_up (H L M unit dn up : Nat) (hE : Bool) (w : World) (h0 : 0 < unit) (hd : H - H % unit = dn) (hu : dn + unit = up) (hl : up < 9223372036854775808) (g1 : ¬ L ≤ dn) (g2 : up ≤ M) :
  Ct 96 #[.agg #[.int .u64 (H : Nat), .bool hE, .int .u64 (L : Nat), .int .u64 (M : Nat)], .int .u64 (unit : Nat)] (.tuple #[.int .u64 (up : Nat), .bool true]) w := by
 obtain ⟨r, hr⟩ : ∃ r, H % unit = r := ⟨_, rfl⟩
 have hrH : r ≤ H := by rw [← hr]; exact Nat.mod_le _ _
 have hru : r < unit := by rw [← hr]; exact Nat.mod_lt _ h0
 rw [hr] at hd
 have k0 := Lib.hid (show (H : Int) % (unit : Int) = (r : Int) by rw [← hr]; rfl)
 have k2 := Lib.hid (show IntKind.u64.wrap ((H : Int) - (r : Int)) = (dn : Int) by rw [IntKind.wrap_u64]; omega)
 have k3 := Lib.hid (show IntKind.u64.wrap ((dn : Int) + (unit : Int)) = (up : Int) by rw [IntKind.wrap_u64]; omega)
 have k6 : (0 : Int) < (unit : Int) := by omega
 have k7 : ¬ (unit : Int) = 0 := by omega
 have t1 := Lib.hid (show decide (L ≤ dn) = false by first | exact decide_eq_true (by omega) | exact decide_eq_false (by omega))
 have t2 := Lib.hid (show decide (up ≤ M) = true by first | exact decide_eq_true (by omega) | exact decide_eq_false (by omega))
 have B0 := Lib.hid (below_al w (.cells #[.int .u64 (H : Nat), .bool hE, .int .u64 (L : Nat), .int .u64 (M : Nat)] 91))
 clear h0 hd hu hl g1 g2 hr hrH hru
 go_enter Tryz.func96, Tryz.ntmps96
 go_wp2
 go_quiet (fail)
 rw [k0.out, k2.out]
 have k3' := k3.out
 go_wp2
 clear k3'
 go_quiet (fail)
 have t1' := t1.out
 have t2' := t2.out
 have BW := Lib.hid (fun q => below_drewN' B0.out q)
 go_wp2
 go_ret2
 exact ⟨rfl, BW.out _⟩
set_option maxRecDepth 100000 in
set_option maxHeartbeats 2000000 in
theorem tcand_none (H L M unit dn up : Nat) (hE : Bool) (w : World) (h0 : 0 < unit) (hd : H - H % unit = dn) (hu : dn + unit = up) (hl : up < 9223372036854775808) (g1 : ¬ L ≤ dn) (g2 : ¬ up ≤ M) :
  Ct 96 #[.agg #[.int .u64 (H : Nat), .bool hE, .int .u64 (L : Nat), .int .u64 (M : Nat)], .int .u64 (unit : Nat)] (.tuple #[.int .u64 (up : Nat), .bool false]) w := by
 obtain ⟨r, hr⟩ : ∃ r, H % unit = r := ⟨_, rfl⟩
 have hrH : r ≤ H := by rw [← hr]; exact Nat.mod_le _ _
 have hru : r < unit := by rw [← hr]; exact Nat.mod_lt _ h0
 rw [hr] at hd
 have k0 := Lib.hid (show (H : Int) % (unit : Int) = (r : Int) by rw [← hr]; rfl)
 have k2 := Lib.hid (show IntKind.u64.wrap ((H : Int) - (r : Int)) = (dn : Int) by rw [IntKind.wrap_u64]; omega)
 have k3 := Lib.hid (show IntKind.u64.wrap ((dn : Int) + (unit : Int)) = (up : Int) by rw [IntKind.wrap_u64]; omega)
 have k6 : (0 : Int) < (unit : Int) := by omega
 have k7 : ¬ (unit : Int) = 0 := by omega
 have t1 := Lib.hid (show decide (L ≤ dn) = false by first | exact decide_eq_true (by omega) | exact decide_eq_false (by omega))
 have t2 := Lib.hid (show decide (up ≤ M) = false by first | exact decide_eq_true (by omega) | exact decide_eq_false (by omega))
 have B0 := Lib.hid (below_al w (.cells #[.int .u64 (H : Nat), .bool hE, .int .u64 (L : Nat), .int .u64 (M : Nat)] 91))
 clear h0 hd hu hl g1 g2 hr hrH hru
 go_enter Tryz.func96, Tryz.ntmps96
 go_wp2
 go_quiet (fail)
 rw [k0.out, k2.out]
 have k3' := k3.out
 go_wp2
 clear k3'
 go_quiet (fail)
 have t1' := t1.out
 have t2' := t2.out
 have BW := Lib.hid (fun q => below_drewN' B0.out q)
 go_wp2
 go_ret2
 exact ⟨rfl, BW.out _⟩

end Go.Proofs.YtfcpkdafkmohkaaGreatDoor
namespace Go.Proofs.YtfcpkdafkmohkaaGreatDoor
open Go.RowKit
theorem tnearer_any (H L M unit dn : Nat) (hE : Bool) (w : World) (h0 : 0 < unit) (hd : H - H % unit = dn) (hH : H < 9223372036854775808) (hU : unit < 9223372036854775808) :
  Ct 160 #[.agg #[.int .u64 (H : Nat), .bool hE, .int .u64 (L : Nat), .int .u64 (M : Nat)], .int .u64 (dn : Nat), .int .u64 (unit : Nat)] (.bool (decide (H % unit < unit / 2 ∨ (H % unit = unit / 2 ∧ hE = true ∧ dn / unit % 2 = 0)))) w := by
 have hle := Nat.mod_le H unit
 have hD : H - dn = H % unit := by omega
 have hdn : dn ≤ H := by omega
 by_cases h1 : H % unit = unit / 2
 ·cases hE
  ·refine (tnearer_more H L M dn unit _ _ w hD hdn hU rfl h1).mono ?_
   rintro e w' ⟨rfl, hb⟩
   exact ⟨by rw [decide_eq_false (by rw [h1]; simp)], hb⟩
  ·refine (tnearer_exact H L M dn unit _ _ _ w hD hdn hH hU rfl h1 h0 rfl).mono ?_
   rintro e w' ⟨rfl, hb⟩
   refine ⟨congrArg (fun b => Ending.returned (.bool b)) ?_, hb⟩
   rw [Bool.eq_iff_iff, beq_iff_eq, decide_eq_true_iff]
   generalize dn / unit = q
   constructor
   ·intro h
    exact .inr ⟨h1, rfl, by omega⟩
   ·rintro (h | ⟨_, _, h⟩)
    ·omega
    ·omega
 ·refine (tnearer_other H L M dn unit _ _ hE w hD hdn hH hU rfl h1).mono ?_
  rintro e w' ⟨rfl, hb⟩
  refine ⟨congrArg (fun b => Ending.returned (.bool b)) ?_, hb⟩
  rw [Bool.eq_iff_iff, decide_eq_true_iff, decide_eq_true_iff]
  generalize H % unit = a at *
  generalize unit / 2 = b at *
  omega
def candV (o : Option Nat) (d : Nat) : Value := .tuple #[.int .u64 ((o.getD d : Nat) : Int), .bool o.isSome]
theorem tcand_any (H L M unit : Nat) (hE : Bool) (w : World) (h0 : 0 < unit) (hl : H + unit < 9223372036854775808) :
  Ct 96 #[.agg #[.int .u64 (H : Nat), .bool hE, .int .u64 (L : Nat), .int .u64 (M : Nat)], .int .u64 (unit : Nat)] (candV (pcn H hE L M unit) (H - H % unit + unit)) w := by
 obtain ⟨dn, hd⟩ : ∃ dn, H - H % unit = dn := ⟨_, rfl⟩
 obtain ⟨up, hu⟩ : ∃ up, dn + unit = up := ⟨_, rfl⟩
 have hup : up < 9223372036854775808 := by omega
 have CN := fun W => tnearer_any H L M unit dn hE W h0 hd (by omega) (by omega)
 unfold pcn
 rw [hd, hu]
 by_cases g1 : L ≤ dn
 ·by_cases g2 : up ≤ M
  ·by_cases g3 : H % unit < unit / 2 ∨ (H % unit = unit / 2 ∧ hE = true ∧ dn / unit % 2 = 0)
   ·rw [if_pos ⟨g1, .inr g3⟩]
    rw [decide_eq_true g3] at CN
    exact tcand_tt H L M unit dn up hE w h0 hd hu hup g1 g2 (Lib.hid CN)
   ·rw [if_neg (fun h => h.2.elim (fun h => h g2) g3), if_pos g2]
    rw [decide_eq_false g3] at CN
    exact tcand_tf H L M unit dn up hE w h0 hd hu hup g1 g2 (Lib.hid CN)
  ·rw [if_pos ⟨g1, .inl g2⟩]
   exact tcand_down H L M unit dn up hE w h0 hd hu hup g1 g2
 ·rw [if_neg (fun h => g1 h.1)]
  by_cases g2 : up ≤ M
  ·rw [if_pos g2]
   exact tcand_up H L M unit dn up hE w h0 hd hu hup g1 g2
  ·rw [if_neg g2]
   exact tcand_none H L M unit dn up hE w h0 hd hu hup g1 g2
abbrev Tab10 (w : World) : Prop := Lib.TabIs Tryz.prog w "internal/strconv.uint64pow10" .u64 Lib.pow10Tab
theorem Tab10.on {w w' : World} (h : Tab10 w) (hb : Below w.heap.size w w') : Tab10 w' := (Lib.tabBelow_of_tabIs h) w' hb
theorem ttrimmed_walk (u n : Nat) (ten x : Int) (D T : ByteArray) (w : World) (hn : D.size = n) (hx : wrap64 ((n : Int) + ten) = x)
  (C1 : Hid (∀ W, W = w → Ct 155 #[.int .u64 u, .int .i64 10] (.string D) W))
  (C2 : Hid (∀ W, Ct 113 #[.string D, .string ⟨#[48]⟩] (.string T) W)) :
  Ct 93 #[.int .u64 u, .int .i64 ten] (.tuple #[.string T, .int .i64 x]) w := by
 go_enter Tryz.func93, Tryz.ntmps93
 go_wp2_with fail
 refine (C1.out _ rfl).mono ?_
 rintro e w1 ⟨rfl, b1⟩
 have B1 := Lib.hid b1
 clear b1
 go_wp2_with fail
 refine (C2.out _).mono ?_
 rintro e w2 ⟨rfl, b2⟩
 have B2 := Lib.hid (below_le B1.out b2)
 clear b2
 go_wp2
 go_ret2
 exact ⟨congrArg (fun z => Ending.returned (.tuple #[.string T, .int .i64 z])) hx, B2.out⟩
theorem ttrimmed_any (u : Nat) (ten : Int) (w : World) (hu : u < 18446744073709551616) (h1 : -1000 ≤ ten) (h2 : ten ≤ 1000) (ht : Tab10 w) :
  Ct 93 #[.int .u64 u, .int .i64 ten] (.tuple #[.string (strOf (trz (dL u))), .int .i64 ((dL u).length + ten)]) w := by
 have hl : (dL u).length ≤ 20 := by
  rcases Nat.eq_zero_or_pos u with h | h
  ·rw [h, dL_small (by omega)]; simp
  ·have h3 : 10 ^ ((dL u).length - 1) < 10 ^ 20 := Nat.lt_of_le_of_lt (dL_ge h) (by omega)
   have := ten_lt h3
   omega
 have hb : bl (strOf (dL u)) = dL u := bl_strOf fun c hc => by have := dg10_iff.1 (dL_dig u c hc); omega
 have C2 := fun W => trimR48 (strOf (dL u)) W (by rw [strOf_size]; omega)
 rw [hb] at C2
 exact ttrimmed_walk u (dL u).length ten _ _ _ w (strOf_size _) (by unfold wrap64; omega) (Lib.hid fun W h => by subst h; exact cfmt_any u W hu ht) (Lib.hid C2)

end Go.Proofs.YtfcpkdafkmohkaaGreatDoor
namespace Go.Proofs.YtfcpkdafkmohkaaGreatDoor
open Go.RowKit
theorem repL_one : ∀ c : Nat, (Lib.repeatL [48] c).map UInt8.toNat = List.replicate c 48
 | 0 => rfl
 | c + 1 => by
  rw [List.replicate_succ, ← repL_one c]
  rfl
theorem trepeat_any (c : Nat) (w : World) (hc : c ≤ 140737488355328) : Ct 106 #[.string ⟨#[48]⟩, .int .i64 c] (.string (strOf (List.replicate c 48))) w := by
 have h := Tryz.strings_Repeat ⟨#[48]⟩ c w (by omega) (by show 1 * c ≤ _; omega)
 have e : (⟨(Lib.repeatL (⟨#[48]⟩ : ByteArray).data.toList c).toArray⟩ : ByteArray) = strOf (List.replicate c 48) := str_eq (repL_one c)
 rw [e] at h
 exact h
def ptL (l : List Nat) (last : Nat) : List Nat :=
 if last = 0 then l else (List.replicate (last + 1 - l.length) 48 ++ l).take (last + 1 - l.length + l.length - last) ++ 46 :: (List.replicate (last + 1 - l.length) 48 ++ l).drop (last + 1 - l.length + l.length - last)
theorem tpointed_zero (s : ByteArray) (w : World) : Cq 55 #[.string s, .int .i64 0] (.string s) w := by
 go_enter Tryz.func55, Tryz.ntmps55
 go_wp2
 go_ret
 exact ⟨rfl, rfl⟩
set_option maxRecDepth 100000 in
set_option maxHeartbeats 1000000 in
theorem tpointed_walk (s Z E F : ByteArray) (N M z last at' : Nat) (w : World) (h0 : 0 < last) (hlast : last ≤ 1000) (hN : s.size = N) (hN2 : N ≤ 1000000) (hz : max ((last : Int) + 1 - (N : Int)) 0 = (z : Int)) (hZ : Z.size = z) (hE : Z ++ s = E) (hM : E.size = M) (hzM : z + N = M)
  (hat : M - last = at') (hlM : last < M) (hF : Hid (E.extract 0 at' ++ ⟨#[46]⟩ ++ E.extract at' M = F))
  (CR : Hid (∀ W, Ct 106 #[.string ⟨#[48]⟩, .int .i64 z] (.string Z) W)) :
  Ct 55 #[.string s, .int .i64 last] (.string F) w := by
 have t0 : ((last : Int) == 0) = false := by rw [beq_eq_false_iff_ne]; omega
 have hs1 : ¬ 9223372036854775807 < Z.size + s.size := by omega
 have k1 : (at' : Int) ≤ (M : Int) := by omega
 have k2 : (0 : Int) ≤ (at' : Int) := by omega
 have k3 : (M : Int) - (last : Int) = (at' : Int) := by omega
 have k4 : (M : Int) ≤ 2000000 := by omega
 go_enter Tryz.func55, Tryz.ntmps55
 go_wp2_with fail
 refine (CR.out _).mono ?_
 rintro e w1 ⟨rfl, b1⟩
 have B1 := Lib.hid b1
 clear b1
 go_wp2_with fail
 clear hE hN hN2 hz hZ hs1 hlast
 go_quiet (fail)
 go_wp2
 go_ret
 exact ⟨congrArg (fun z => Ending.returned (.string z)) hF.out, below_drewN' B1.out _⟩
theorem dot_str : (⟨#[46]⟩ : ByteArray) = strOf [46] := rfl
theorem ptL_len (l : List Nat) (last : Nat) (h : last ≠ 0) : (ptL l last).length = max (last + 1) l.length + 1 := by
 unfold ptL
 rw [if_neg h]
 simp
 omega
theorem mem_rep {l : List Nat} {z : Nat} (h : ∀ c ∈ l, c < 256) : ∀ c ∈ List.replicate z 48 ++ l, c < 256 := by
 intro c hc
 rw [List.mem_append, List.mem_replicate] at hc
 rcases hc with ⟨_, rfl⟩ | hc
 ·omega
 ·exact h c hc
theorem tpointed_any (l : List Nat) (last : Nat) (w : World) (hl : ∀ c ∈ l, c < 256) (hn : l.length ≤ 100000) (hlast : last ≤ 1000) :
  Ct 55 #[.string (strOf l), .int .i64 last] (.string (strOf (ptL l last))) w := by
 rcases Nat.eq_zero_or_pos last with h0 | h0
 ·subst h0
  refine (tpointed_zero (strOf l) w).mono ?_
  rintro e w' ⟨rfl, rfl⟩
  exact ⟨rfl, Below.refl _ _⟩
 ·obtain ⟨z, hz⟩ : ∃ z, last + 1 - l.length = z := ⟨_, rfl⟩
  have hE : strOf (List.replicate z 48) ++ strOf l = strOf (List.replicate z 48 ++ l) := strOf_append _ _
  have hb := bl_strOf (mem_rep (z := z) hl)
  have hM : (strOf (List.replicate z 48 ++ l)).size = z + l.length := by rw [strOf_size, List.length_append, List.length_replicate]
  refine tpointed_walk (strOf l) (strOf (List.replicate z 48)) _ _ l.length (z + l.length) z last _ w h0 hlast (strOf_size _) (by omega) (by omega) (by rw [strOf_size, List.length_replicate]) hE hM rfl rfl (by omega) (Lib.hid ?_) (Lib.hid fun W => trepeat_any z W (by omega))
  rw [ext_take, show z + l.length = (strOf (List.replicate z 48 ++ l)).size from hM.symm, ext_drop, hb, dot_str, strOf_append, strOf_append, hM]
  unfold ptL
  rw [if_neg (by omega), hz, List.append_assoc, List.singleton_append]
def mnL (l : List Nat) : List Nat := if l.length ≤ 1 then l else l.take 1 ++ 46 :: l.drop 1
def sgL (e : Int) : List Nat := if e < 0 then [101, 45] else [101, 43]
def scL (l : List Nat) (e : Int) : List Nat := mnL l ++ sgL e ++ dL e.natAbs
theorem titoa_any (k : Nat) (w : World) (hk : k ≤ 9223372036854775807) (ht : Tab10 w) : Ct 126 #[.int .i64 k] (.string (strOf (dL k))) w := by
 refine (Tryz.strconv_Itoa (k : Int) (by omega) (by omega) w ht).mono ?_
 rintro e w' ⟨rfl, a, os, rfl⟩
 refine ⟨?_, Lib.below_grow _ _ (Nat.le_refl _) _ _⟩
 rw [Lib.itoa_nonneg]
 exact congrArg (fun z => Ending.returned (.string z)) (str_eq rfl)
set_option maxRecDepth 100000 in
set_option maxHeartbeats 1000000 in
theorem tscientific_00 (s Y G I F : ByteArray) (N k : Nat) (E : Int) (w : World) (hN : s.size = N) (hk : k ≤ 100000) (hE : E = (k : Int)) (hN1 : N = 1)
  (hY : Hid (s = Y)) (hYs : Hid (Y.size ≤ 1000001)) (hG : Hid (Y ++ ⟨#[101, 43]⟩ = G)) (hGs : Hid (G.size ≤ 1000003)) (hIs : Hid (I.size ≤ 100)) (hF : Hid (G ++ I = F))
  (CI : Hid (∀ W, Below w.heap.size w W → Ct 126 #[.int .i64 k] (.string I) W)) :
  Ct 59 #[.string s, .int .i64 E] (.string F) w := by
 subst hE
 have t0 : ¬ (k : Int) < 0 := by omega
 have t1 : decide ((1 : Int) < (N : Int)) = false := decide_eq_false (by omega)
 have g1 : ¬ 9223372036854775807 < N + 2 := by omega
 have G1 := hG.out
 clear hN1
 have hY' := hY.out
 subst hY'
 go_enter Tryz.func59, Tryz.ntmps59
 have B1 := Lib.hid (Below.refl w.heap.size w)
 have g2 : ¬ 9223372036854775807 < G.size + I.size := by have := hGs.out; have := hIs.out; omega
 have F1 := hF.out
 go_wp2_with fail
 refine (CI.out _ B1.out).mono ?_
 rintro e w2 ⟨rfl, b2⟩
 have B2 := Lib.hid (below_le B1.out b2)
 clear b2
 go_wp2
 go_ret
 exact ⟨rfl, B2.out⟩
set_option maxRecDepth 100000 in
set_option maxHeartbeats 1000000 in
theorem tscientific_01 (s Y G I F : ByteArray) (N k : Nat) (E : Int) (w : World) (hN : s.size = N) (hN2 : N ≤ 1000000) (hk : k ≤ 100000) (hE : E = (k : Int)) (hN1 : 1 < N)
  (hY : Hid (s.extract 0 1 ++ ⟨#[46]⟩ ++ s.extract 1 N = Y)) (hYs : Hid (Y.size ≤ 1000001)) (hG : Hid (Y ++ ⟨#[101, 43]⟩ = G)) (hGs : Hid (G.size ≤ 1000003)) (hIs : Hid (I.size ≤ 100)) (hF : Hid (G ++ I = F))
  (CI : Hid (∀ W, Below w.heap.size w W → Ct 126 #[.int .i64 k] (.string I) W)) :
  Ct 59 #[.string s, .int .i64 E] (.string F) w := by
 subst hE
 have t0 : ¬ (k : Int) < 0 := by omega
 have t1 : (1 : Int) < (N : Int) := by omega
 have k4 : (N : Int) ≤ 1000000 := by omega
 clear hN1 hN2 
 go_enter Tryz.func59, Tryz.ntmps59
 go_wp2
 go_quiet (fail)
 have hY' := hY.out
 rw [hY']
 clear hY'
 rename_i nq
 have B1 := Lib.hid (below_drewN' (Below.refl w.heap.size w) nq)
 have g1 : ¬ 9223372036854775807 < Y.size + 2 := by have := hYs.out; omega
 have g2 : ¬ 9223372036854775807 < G.size + I.size := by have := hGs.out; have := hIs.out; omega
 have G2 := hG.out
 have F1 := hF.out
 go_wp2_with fail
 refine (CI.out _ B1.out).mono ?_
 rintro e w2 ⟨rfl, b2⟩
 have B2 := Lib.hid (below_le B1.out b2)
 clear b2
 go_wp2
 go_ret
 exact ⟨rfl, B2.out⟩
set_option maxRecDepth 100000 in
set_option maxHeartbeats 1000000 in
theorem tscientific_10 (s Y G I F : ByteArray) (N k : Nat) (E : Int) (w : World) (hN : s.size = N) (hk : k ≤ 100000) (hE : -E = (k : Int)) (h0 : 0 < k) (hN1 : N = 1)
  (hY : Hid (s = Y)) (hYs : Hid (Y.size ≤ 1000001)) (hG : Hid (Y ++ ⟨#[101, 45]⟩ = G)) (hGs : Hid (G.size ≤ 1000003)) (hIs : Hid (I.size ≤ 100)) (hF : Hid (G ++ I = F))
  (CI : Hid (∀ W, Below w.heap.size w W → Ct 126 #[.int .i64 k] (.string I) W)) :
  Ct 59 #[.string s, .int .i64 E] (.string F) w := by
 have t0 : E < 0 := by omega
 have t3 : -100000 ≤ E := by omega
 have t1 : decide ((1 : Int) < (N : Int)) = false := decide_eq_false (by omega)
 have g1 : ¬ 9223372036854775807 < N + 2 := by omega
 have G1 := hG.out
 clear hN1 h0
 have hY' := hY.out
 subst hY'
 go_enter Tryz.func59, Tryz.ntmps59
 have B1 := Lib.hid (Below.refl w.heap.size w)
 have g2 : ¬ 9223372036854775807 < G.size + I.size := by have := hGs.out; have := hIs.out; omega
 have F1 := hF.out
 go_wp2_with fail
 refine (CI.out _ B1.out).mono ?_
 rintro e w2 ⟨rfl, b2⟩
 have B2 := Lib.hid (below_le B1.out b2)
 clear b2
 go_wp2
 go_ret
 exact ⟨rfl, B2.out⟩
set_option maxRecDepth 100000 in
set_option maxHeartbeats 1000000 in
theorem tscientific_11 (s Y G I F : ByteArray) (N k : Nat) (E : Int) (w : World) (hN : s.size = N) (hN2 : N ≤ 1000000) (hk : k ≤ 100000) (hE : -E = (k : Int)) (h0 : 0 < k) (hN1 : 1 < N)
  (hY : Hid (s.extract 0 1 ++ ⟨#[46]⟩ ++ s.extract 1 N = Y)) (hYs : Hid (Y.size ≤ 1000001)) (hG : Hid (Y ++ ⟨#[101, 45]⟩ = G)) (hGs : Hid (G.size ≤ 1000003)) (hIs : Hid (I.size ≤ 100)) (hF : Hid (G ++ I = F))
  (CI : Hid (∀ W, Below w.heap.size w W → Ct 126 #[.int .i64 k] (.string I) W)) :
  Ct 59 #[.string s, .int .i64 E] (.string F) w := by
 have t0 : E < 0 := by omega
 have t3 : -100000 ≤ E := by omega
 have t1 : (1 : Int) < (N : Int) := by omega
 have k4 : (N : Int) ≤ 1000000 := by omega
 clear hN1 hN2 h0
 go_enter Tryz.func59, Tryz.ntmps59
 go_wp2
 go_quiet (fail)
 have hY' := hY.out
 rw [hY']
 clear hY'
 rename_i nq
 have B1 := Lib.hid (below_drewN' (Below.refl w.heap.size w) nq)
 have g1 : ¬ 9223372036854775807 < Y.size + 2 := by have := hYs.out; omega
 have g2 : ¬ 9223372036854775807 < G.size + I.size := by have := hGs.out; have := hIs.out; omega
 have G2 := hG.out
 have F1 := hF.out
 go_wp2_with fail
 refine (CI.out _ B1.out).mono ?_
 rintro e w2 ⟨rfl, b2⟩
 have B2 := Lib.hid (below_le B1.out b2)
 clear b2
 go_wp2
 go_ret
 exact ⟨rfl, B2.out⟩
theorem mnL_lt {l : List Nat} (hl : ∀ c ∈ l, c < 256) : ∀ c ∈ mnL l, c < 256 := by
 intro c hc
 unfold mnL at hc
 split at hc
 ·exact hl c hc
 ·rw [List.mem_append, List.mem_cons] at hc
  rcases hc with hc | rfl | hc
  ·exact hl c (List.mem_of_mem_take hc)
  ·omega
  ·exact hl c (List.mem_of_mem_drop hc)
theorem mnL_len (l : List Nat) : (mnL l).length ≤ l.length + 1 := by
 unfold mnL
 split
 ·omega
 ·simp
  omega
theorem dL_le {n k : Nat} (h : n < 10 ^ k) (hk : 0 < k) : (dL n).length ≤ k := by
 rcases Nat.eq_zero_or_pos n with h0 | h0
 ·rw [h0, dL_small (by omega)]
  simp
  omega
 ·have := ten_lt (Nat.lt_of_le_of_lt (dL_ge h0) h)
  omega
theorem tscientific_any (l : List Nat) (E : Int) (w : World) (hl : ∀ c ∈ l, c < 256) (hn0 : 1 ≤ l.length) (hn : l.length ≤ 1000000) (h1 : -100000 ≤ E) (h2 : E ≤ 100000) (ht : Tab10 w) :
  Ct 59 #[.string (strOf l), .int .i64 E] (.string (strOf (scL l E))) w := by
 obtain ⟨k, hk⟩ : ∃ k, E.natAbs = k := ⟨_, rfl⟩
 have hI : (strOf (dL k)).size ≤ 100 := by
  rw [strOf_size]
  exact Nat.le_trans (dL_le (k := 6) (by omega) (by omega)) (by omega)
 have hY : (strOf (mnL l)).size ≤ 1000001 := by rw [strOf_size]; have := mnL_len l; omega
 have hG : (strOf (mnL l ++ sgL E)).size ≤ 1000003 := by
  rw [strOf_size, List.length_append]
  have := mnL_len l
  have : (sgL E).length = 2 := by unfold sgL; split <;> rfl
  omega
 have hF : strOf (mnL l ++ sgL E) ++ strOf (dL k) = strOf (scL l E) := by rw [strOf_append, ← hk]; rfl
 have CI := Lib.hid (fun W (hW : Below w.heap.size w W) => titoa_any k W (by omega) (ht.on hW))
 have hb := bl_strOf hl
 have hsz := strOf_size l
 have hYY : ¬ l.length ≤ 1 → (strOf l).extract 0 1 ++ ⟨#[46]⟩ ++ (strOf l).extract 1 l.length = strOf (mnL l) := by
  intro h
  rw [ext_take, ← hsz, ext_drop, hb, dot_str, strOf_append, strOf_append]
  unfold mnL
  rw [if_neg h, List.append_assoc, List.singleton_append]
 have hY1 : l.length ≤ 1 → strOf l = strOf (mnL l) := by
  intro h
  unfold mnL
  rw [if_pos h]
 by_cases hE : E < 0
 ·have hs : strOf (mnL l) ++ (⟨#[101, 45]⟩ : ByteArray) = strOf (mnL l ++ sgL E) := by
   unfold sgL
   rw [if_pos hE, ← strOf_append]
   rfl
  by_cases hL : l.length ≤ 1
  ·exact tscientific_10 _ _ _ _ _ l.length k E w hsz (by omega) (by omega) (by omega) (by omega) (Lib.hid (hY1 hL)) (Lib.hid hY) (Lib.hid hs) (Lib.hid hG) (Lib.hid hI) (Lib.hid hF) CI
  ·exact tscientific_11 _ _ _ _ _ l.length k E w hsz hn (by omega) (by omega) (by omega) (by omega) (Lib.hid (hYY hL)) (Lib.hid hY) (Lib.hid hs) (Lib.hid hG) (Lib.hid hI) (Lib.hid hF) CI
 ·have hs : strOf (mnL l) ++ (⟨#[101, 43]⟩ : ByteArray) = strOf (mnL l ++ sgL E) := by
   unfold sgL
   rw [if_neg hE, ← strOf_append]
   rfl
  by_cases hL : l.length ≤ 1
  ·exact tscientific_00 _ _ _ _ _ l.length k E w hsz (by omega) (by omega) (by omega) (Lib.hid (hY1 hL)) (Lib.hid hY) (Lib.hid hs) (Lib.hid hG) (Lib.hid hI) (Lib.hid hF) CI
  ·exact tscientific_01 _ _ _ _ _ l.length k E w hsz hn (by omega) (by omega) (by omega) (Lib.hid (hYY hL)) (Lib.hid hY) (Lib.hid hs) (Lib.hid hG) (Lib.hid hI) (Lib.hid hF) CI

end Go.Proofs.YtfcpkdafkmohkaaGreatDoor
namespace Go.Proofs.YtfcpkdafkmohkaaGreatDoor
open Go.RowKit
theorem tscaled_as {W : World} {A : Option Addr} {n c N V x y : Nat} {two ten : Int} (hA : NV W A n c N) (hm : bln N ≤ 2000) (h1 : -1000 ≤ ten) (h2 : ten ≤ 1000) (h3 : -3000 ≤ two) (h4 : two ≤ 3000)
  (hq : scA N two ten / scB two ten = V) (hb : scA N two ten % scB two ten = 0 ↔ x % y = 0) :
  Cp 123 #[.slice A n c, .int .i64 two, .int .i64 ten] W fun e w' => ∃ A3 n3 c3, e = .returned (.tuple #[.slice A3 n3 c3, .bool (decide (x % y = 0))]) ∧ NV w' A3 n3 c3 V ∧ Below W.heap.size W w' := by
 refine (tscaled_any two ten hA hm h1 h2 h3 h4).mono ?_
 rintro e w' ⟨A3, n3, c3, rfl, hv, hw⟩
 rw [hq] at hv
 rw [decide_eq_decide.2 hb]
 exact ⟨A3, n3, c3, rfl, hv, hw⟩
def SpanQ (r : Nat) (n : Int) (w : World) (e : Ending) (w' : World) : Prop :=
 ∃ M : Nat, e = .returned (.agg #[.int .u64 ((vU r (18 - n) / vV (18 - n) : Nat) : Int), .bool (decide (vU r (18 - n) % vV (18 - n) = 0)), .int .u64 ((leastOf (vV (18 - n)) (10 ^ ((18 : Int) - n).toNat) r : Nat) : Int), .int .u64 (M : Nat)]) ∧
  (∀ c, c ≤ M ↔ mostLe (vV (18 - n)) (10 ^ ((18 : Int) - n).toNat) r c) ∧ Below w.heap.size w w'
set_option maxHeartbeats 1000000 in
theorem tspan_any {w : World} {A : Option Addr} {n0 c0 r m : Nat} {two n : Int} (hA : NV w A n0 c0 m) (hp : PartIs r m two) (h0 : 0 < r) (hpt : PointAt (fmag r) big n) (hn1 : -345 ≤ n) (hn2 : n ≤ 335) :
  Cp 95 #[.slice A n0 c0, .int .i64 two, .int .i64 (18 - n)] w (SpanQ r n w) := by
 obtain ⟨q1, q2, q3, q4, q5, q6⟩ := hp.pos
 obtain ⟨c, D, k, h1, h2, h3, h4, h5, h6, h7, h8⟩ := hp
 obtain ⟨s, hs⟩ : ∃ s, (18 : Int) - n = s := ⟨_, rfl⟩
 have hbc := bln_shift (k := k) q1
 rw [← h4] at hbc
 have hc0 : 0 < c := by rw [h4]; exact Nat.mul_pos q1 (two_pos k)
 obtain ⟨b1, b2, b3⟩ := bln_bounds hc0
 have hb53 : bln c ≤ 53 := bln_le (by omega)
 have hb53' : 4503599627370496 ≤ c → bln c = 53 := by
  intro h
  exact bln_of (L := 52) (by omega) (by omega)
 -- the ends, in quarters
 obtain ⟨e1, e2⟩ := quarters h1 h2 h3 h0
 have hHc := here_cross (s := s) (K := 1074) rfl h1 h2 h3 h4
 have hp2 : m * 2 ^ (k + 2) = 4 * c := by rw [h4, Nat.pow_add]; grind
 have hMc := end_cross (N := 4 * c + 2) (S := fmag r + fmag (r + 1)) (s := s) (K := 1074) rfl e1
 obtain ⟨bw, hbw⟩ : ∃ bw, (if c = 4503599627370496 ∧ 0 < D then 1 else 2) = bw := ⟨_, rfl⟩
 rw [hbw] at e2
 have hLc := end_cross (N := 4 * c - bw) (S := fmag (r - 1) + fmag r) (s := s) (K := 1074) rfl e2
 have hvV := vV_pos s
 have hsc := scB_pos ((D : Int) - 1076) s
 have H1 := (quot_cross hsc hvV hHc).1
 have H2 := rest_cross hsc hvV hHc
 have M1 := (quot_cross hsc (by omega) hMc).1
 have M2 := rest_cross hsc (by omega) hMc
 have L1 := (quot_cross hsc (by omega) hLc).1
 have L2 := rest_cross hsc (by omega) hLc
 have hH := (here_lt hpt).1
 have hM := most_lt h0 hpt
 have hL := least_lt h0 hpt
 unfold SpanQ
 rw [hs] at hH hM hL ⊢
 have hbw2 : bw ≤ 2 := by rw [← hbw]; split <;> omega
 rw [hp2] at H1 H2
 -- how many bits
 have bl4 : bln (4 * c + 2) ≤ 100 := bln_le (by omega)
 have bl4' : bln (4 * c) ≤ 100 := bln_le (by omega)
 have bl4'' : bln (4 * c - bw) ≤ 100 := bln_le (by omega)
 have S1 := Lib.hid (fun W A1 n1 c1 (h : NV W A1 n1 c1 (4 * c)) => tscaled_as (two := (D : Int) - 1076) (ten := s) h (by omega) (by omega) (by omega) (by omega) (by omega) H1 H2)
 have S2 := Lib.hid (fun W A1 n1 c1 (h : NV W A1 n1 c1 (4 * c - bw)) => tscaled_as (two := (D : Int) - 1076) (ten := s) h (by omega) (by omega) (by omega) (by omega) (by omega) L1 L2)
 have S3 := Lib.hid (fun W A1 n1 c1 (h : NV W A1 n1 c1 (4 * c + 2)) => tscaled_as (two := (D : Int) - 1076) (ten := s) h (by omega) (by omega) (by omega) (by omega) (by omega) M1 M2)
 have C1 := Lib.hid (fun W (h : NV W A n0 c0 m) => nbits h (by omega))
 have C2 := Lib.hid (fun W (h : NV W A n0 c0 m) => nshl h (k + 2) (by omega))
 rw [hp2] at C2
 have C4 := Lib.hid (fun W A1 n1 c1 A2 n2 c2 (h : NV W A1 n1 c1 (4 * c)) (g : NV W A2 n2 c2 bw) => nsub h g (by omega) (by omega))
 have C5 := Lib.hid (fun W => nof 2 (by omega) W)
 have C6 := Lib.hid (fun W A1 n1 c1 A2 n2 c2 (h : NV W A1 n1 c1 (4 * c)) (g : NV W A2 n2 c2 2) => nadd h g (by omega))
 have hev : decide (((D : Int) - 1074) < two) = decide (r % 2 = 0) := by
  refine decide_eq_decide.2 ?_
  rcases Nat.eq_zero_or_pos k with hk | hk
  ·rw [hk, Nat.pow_zero, Nat.mul_one] at h4
   omega
  ·obtain ⟨j, rfl⟩ : ∃ j, k = j + 1 := ⟨k - 1, by omega⟩
   rw [Nat.pow_succ, ← Nat.mul_assoc] at h4
   omega
 have hmax : max ((bln m : Int) + two - 53) (-1074) = (D : Int) - 1074 := by
  rcases Nat.eq_zero_or_pos D with hD | hD
  ·omega
  ·have := hb53' (by omega)
   omega
 have hpow : bln m = 1 → c = 2 ^ k := by
  intro h
  obtain ⟨u1, u2, _⟩ := bln_bounds q1
  rw [h] at u1 u2
  simp at u1 u2
  have : m = 1 := by omega
  rw [h4, this, Nat.one_mul]
 have fin : ∀ (e : Ending) (w' : World), (e = .returned (.agg #[.int .u64 ((vU r s / vV s : Nat) : Int), .bool (decide (vU r s % vV s = 0)), .int .u64 ((if decide ((fmag (r - 1) + fmag r) * 10 ^ s.toNat % (2 * vV s) = 0) = true ∧ decide (r % 2 = 0) = true then (fmag (r - 1) + fmag r) * 10 ^ s.toNat / (2 * vV s) else (fmag (r - 1) + fmag r) * 10 ^ s.toNat / (2 * vV s) + 1 : Nat) : Int), .int .u64 ((if decide ((fmag r + fmag (r + 1)) * 10 ^ s.toNat % (2 * vV s) = 0) = true ∧ decide (r % 2 = 0) = false then (fmag r + fmag (r + 1)) * 10 ^ s.toNat / (2 * vV s) - 1 else (fmag r + fmag (r + 1)) * 10 ^ s.toNat / (2 * vV s) : Nat) : Int)]) ∧ Below w.heap.size w w') → ∃ M : Nat, e = .returned (.agg #[.int .u64 ((vU r s / vV s : Nat) : Int), .bool (decide (vU r s % vV s = 0)), .int .u64 ((leastOf (vV s) (10 ^ s.toNat) r : Nat) : Int), .int .u64 (M : Nat)]) ∧ (∀ c, c ≤ M ↔ mostLe (vV s) (10 ^ s.toNat) r c) ∧ Below w.heap.size w w' := by
  rintro e w' ⟨he, hw⟩
  have hle : (if decide ((fmag (r - 1) + fmag r) * 10 ^ s.toNat % (2 * vV s) = 0) = true ∧ decide (r % 2 = 0) = true then (fmag (r - 1) + fmag r) * 10 ^ s.toNat / (2 * vV s) else (fmag (r - 1) + fmag r) * 10 ^ s.toNat / (2 * vV s) + 1) = leastOf (vV s) (10 ^ s.toNat) r := by
   unfold leastOf
   by_cases g : (fmag (r - 1) + fmag r) * 10 ^ s.toNat % (2 * vV s) = 0 <;> by_cases g2 : r % 2 = 0 <;> simp [g, g2]
  rw [hle] at he
  refine ⟨(if decide ((fmag r + fmag (r + 1)) * 10 ^ s.toNat % (2 * vV s) = 0) = true ∧ decide (r % 2 = 0) = false then (fmag r + fmag (r + 1)) * 10 ^ s.toNat / (2 * vV s) - 1 else (fmag r + fmag (r + 1)) * 10 ^ s.toNat / (2 * vV s)), he, ?_, hw⟩
  ·intro c
   unfold mostLe
   have := hM.2
   by_cases g : (fmag r + fmag (r + 1)) * 10 ^ s.toNat % (2 * vV s) = 0 <;> by_cases g2 : r % 2 = 0 <;> simp [g, g2] <;> omega
 rcases Nat.decEq (bln m) 1 with hb | hb
 ·have hbw' : bw = 2 := by
   rw [← hbw, if_neg]
   rintro ⟨g1, g2⟩
   apply hb
   have hb2 : bln c = 53 := by rw [g1]; exact bln_of (L := 52) (by omega) (by omega)
   have hk : k = 52 := by
    rcases Nat.lt_or_ge k 52 with h | h
    ·exfalso
     obtain ⟨d, hd⟩ : ∃ d, 52 = k + (d + 1) := ⟨52 - k - 1, by omega⟩
     have : m * 2 ^ k = 2 ^ (d + 1) * 2 ^ k := by rw [← h4, g1, ← Nat.pow_add, Nat.add_comm, ← hd]
     have := Nat.eq_of_mul_eq_mul_right (two_pos k) this
     rw [Nat.pow_succ] at this
     omega
    ·omega
   omega
  subst hbw'
  have C3 := Lib.hid (fun W => nof 2 (by omega) W)
  refine (tspan_more (bI := 2) (x4 := ((k + 2 : Nat) : Int)) (x5 := (D : Int) - 1076) (last := (D : Int) - 1074) (x1 := (bln m : Int) + two) (x2 := (bln m : Int) + two - 53) (x3 := (k : Int)) (two := two) (ten := s) hA C1 C2 C3 C4 C5 C6 S1 S2 S3 (by omega) (by omega) (by omega) hM.2 (by unfold wrap64; omega) (by unfold wrap64; omega) hmax (by unfold wrap64; omega) (by unfold wrap64; omega) (by unfold wrap64; omega) ⟨hb, rfl⟩ hev).mono ?_
  exact fin
 ·have hc2 := hpow hb
  rcases Nat.eq_zero_or_pos D with hD | hD
  ·have hbw' : bw = 2 := by
    rw [← hbw, if_neg]
    omega
   subst hbw'
   have C3 := Lib.hid (fun W => nof 2 (by omega) W)
   refine (tspan_low (bI := 2) (x4 := ((k + 2 : Nat) : Int)) (x5 := (D : Int) - 1076) (last := (D : Int) - 1074) (x1 := (bln m : Int) + two) (x2 := (bln m : Int) + two - 53) (x3 := (k : Int)) (two := two) (ten := s) hA C1 C2 C3 C4 C5 C6 S1 S2 S3 (by omega) (by omega) (by omega) hM.2 (by unfold wrap64; omega) (by unfold wrap64; omega) hmax (by unfold wrap64; omega) (by unfold wrap64; omega) (by unfold wrap64; omega) ⟨hb, decide_eq_false (by omega), rfl⟩ hev).mono ?_
   exact fin
  ·have hbw' : bw = 1 := by
    have := hb53' (by omega)
    have hk : k = 52 := by omega
    rw [← hbw, if_pos]
    rw [hk] at hc2
    omega
   subst hbw'
   have C3 := Lib.hid (fun W => nof 1 (by omega) W)
   refine (tspan_one (bI := 1) (x4 := ((k + 2 : Nat) : Int)) (x5 := (D : Int) - 1076) (last := (D : Int) - 1074) (x1 := (bln m : Int) + two) (x2 := (bln m : Int) + two - 53) (x3 := (k : Int)) (two := two) (ten := s) hA C1 C2 C3 C4 C5 C6 S1 S2 S3 (by omega) (by omega) (by omega) hM.2 (by unfold wrap64; omega) (by unfold wrap64; omega) hmax (by unfold wrap64; omega) (by unfold wrap64; omega) (by unfold wrap64; omega) ⟨hb, by omega, rfl⟩ hev).mono ?_
   exact fin

end Go.Proofs.YtfcpkdafkmohkaaGreatDoor
namespace Go.Proofs.YtfcpkdafkmohkaaGreatDoor
open Go.RowKit
theorem cut_zero (s : Bool) (n d : Nat) : Ieee.Toward.zero.cut s n d = n / 2 ^ d := by
 unfold Ieee.Toward.cut
 simp only
 rw [Nat.one_shiftLeft]
 show n / 2 ^ min d (n.log2 + 2) + 0 = _
 rw [Nat.add_zero]
 by_cases hm : d ≤ n.log2 + 2
 ·rw [Nat.min_eq_left hm]
 ·rw [Nat.min_eq_right (by omega)]
  have hlt : n < 2 ^ (n.log2 + 2) := by
   rcases Nat.eq_zero_or_pos n with h0 | h0
   ·rw [h0]; exact Nat.two_pow_pos _
   ·have := (log2_two n h0).2
    have h9 : 2 ^ (n.log2 + 1) ≤ 2 ^ (n.log2 + 2) := Nat.pow_le_pow_right (by omega) (by omega)
    omega
  have hlt2 : n < 2 ^ d := Nat.lt_of_lt_of_le hlt (Nat.pow_le_pow_right (by omega) (by omega))
  rw [Nat.div_eq_of_lt hlt, Nat.div_eq_of_lt hlt2]
theorem toInt_pos {r : Nat} (hr : r < 9218868437227405312) : (FloatKind.f64.decode r).toInt .zero = some ((fmag r / big : Nat) : Int) := by
 obtain ⟨K, hK, hb⟩ := big_K
 obtain ⟨m, e, h1, h2, h3⟩ := read_pos hr
 rw [show FloatKind.f64.decode r = Ieee.double.read r from rfl, h1]
 unfold Ieee.Datum.toInt Ieee.Datum.integral
 simp only [cut_zero, signed_eq, Nat.pow_zero, Nat.mul_one]
 have hq : (m <<< e.toNat) / 2 ^ (-e).toNat = fmag r / big := by
  rw [hb]
  have hA : fmag r * 2 ^ (-e).toNat = (m <<< e.toNat) * 2 ^ K := by
   rw [h3, Nat.shiftLeft_eq, Nat.mul_assoc, Nat.mul_assoc, ← Nat.pow_add, ← Nat.pow_add, show (e + 1074).toNat + (-e).toNat = e.toNat + K by omega]
  rw [← Nat.mul_div_mul_right (m <<< e.toNat) (2 ^ (-e).toNat) (Nat.two_pow_pos K), ← hA, Nat.mul_comm (2 ^ (-e).toNat), Nat.mul_div_mul_right _ _ (Nat.two_pow_pos _)]
 rw [hq]
 rfl
theorem conv_u64 {x T : Nat} (hx : x < 9218868437227405312) (hT : fmag x / big = T) (h : T < 9223372036854775808) (W : World) : (convert 22 71 (.float .f64 x)).run Tryz.prog W = .ok (.int .u64 (T : Int)) W := by
 refine run_convert_float_int W 22 71 .f64 .u64 _ _ (by kernel_rfl) (by kernel_rfl) ?_
 unfold floatToIntVal
 rw [toInt_pos hx, hT]
 simp only
 have m1 : IntKind.u64.min = 0 := rfl
 have m2 : IntKind.u64.max = 18446744073709551615 := rfl
 rw [if_pos (by rw [m1, m2]; omega)]
theorem frank_pos {x : Nat} (h : x ≤ 9218868437227405312) : frank x = (x : Int) ∧ rung x = x := by
 have h1 : rung x = x := by unfold rung; omega
 have h2 : fneg x = false := by unfold fneg; rw [show x / 9223372036854775808 % 2 = 0 by omega]; rfl
 refine ⟨?_, h1⟩
 unfold frank
 rw [h2, h1]
 rfl
theorem ord_lt_pos {x y : Nat} (hx : x ≤ 9218868437227405312) (hy : y ≤ 9218868437227405312) : (FloatKind.f64.format.order x y == some .lt) = decide (x < y) := by
 obtain ⟨a1, a2⟩ := frank_pos hx
 obtain ⟨b1, b2⟩ := frank_pos hy
 rw [show FloatKind.f64.format.order x y = Ieee.double.order x y from rfl, order_eq (by omega) (by omega), a1, b1, Bool.eq_iff_iff, beq_iff_eq, decide_eq_true_iff]
 rw [Option.some.injEq, Int.compare_eq_lt]
 omega
theorem ord_eq_pos {x y : Nat} (hx : x ≤ 9218868437227405312) (hy : y ≤ 9218868437227405312) : (FloatKind.f64.format.order x y == some .eq) = decide (x = y) := by
 obtain ⟨a1, a2⟩ := frank_pos hx
 obtain ⟨b1, b2⟩ := frank_pos hy
 rw [show FloatKind.f64.format.order x y = Ieee.double.order x y from rfl, order_eq (by omega) (by omega), a1, b1, Bool.eq_iff_iff, beq_iff_eq, decide_eq_true_iff]
 rw [Option.some.injEq, Int.compare_eq_eq]
 omega
theorem ord_gt_pos {x y : Nat} (hx : x ≤ 9218868437227405312) (hy : y ≤ 9218868437227405312) : (FloatKind.f64.format.order x y == some .gt) = decide (y < x) := by
 obtain ⟨a1, a2⟩ := frank_pos hx
 obtain ⟨b1, b2⟩ := frank_pos hy
 rw [show FloatKind.f64.format.order x y = Ieee.double.order x y from rfl, order_eq (by omega) (by omega), a1, b1, Bool.eq_iff_iff, beq_iff_eq, decide_eq_true_iff]
 rw [Option.some.injEq, Int.compare_eq_gt]
 omega
theorem trunc_lt {x : Nat} (h : x < 4845873199050653696) : fmag x / big < 9007199254740992 := by
 obtain ⟨K, hK, hb⟩ := big_K
 obtain ⟨J, hJ⟩ : ∃ J : Nat, J = 1075 := ⟨_, rfl⟩
 have h2 := fmag_make 4503599627370496 J (by omega) (by omega)
 rw [hJ, show 1075 * 4503599627370496 + 4503599627370496 = 4845873199050653696 from rfl, ← hJ] at h2
 have h1 := fmag_lt.2 h
 rw [Nat.div_lt_iff_lt_mul big_pos, hb]
 rw [h2, show J = 1 + K by omega, Nat.pow_add, ← Nat.mul_assoc] at h1
 exact h1
theorem float_whole {x T : Nat} (hx : x < 9218868437227405312) (hT : T < 9007199254740992) : (FloatKind.f64.format.order x (fl T) == some .eq) = decide (fmag x = T * big) := by
 obtain ⟨K, hK, hb⟩ := big_K
 obtain ⟨f1, f2⟩ := fmag_fl hT hK
 rw [ord_eq_pos (by omega) (by omega), hb, ← f1]
 refine decide_eq_decide.2 ⟨fun h => by rw [h], fun h => fmag_inj h⟩

end Go.Proofs.YtfcpkdafkmohkaaGreatDoor
namespace Go.Proofs.YtfcpkdafkmohkaaGreatDoor
open Go.RowKit
theorem fbad_pos {x : Nat} (h0 : 0 < x) (hx : x < 9218868437227405312) : rung x = x ∧ fbad x = false := by
 have h1 : rung x = x := by unfold rung; omega
 have h2 : fneg x = false := by unfold fneg; rw [show x / 9223372036854775808 % 2 = 0 by omega]; rfl
 refine ⟨h1, ?_⟩
 unfold fbad fnan finf
 rw [h1, h2, decide_eq_false (by omega), decide_eq_false (by omega)]
 rfl
theorem parts_is {x k m : Nat} (h0 : 0 < x) (hx : x < 9218868437227405312) (h : fwhole x = 2 ^ (k + 1) * m + 2 ^ k) : PartIs x (2 * m + 1) (fpow x + (k : Nat)) := by
 obtain ⟨p1, p2⟩ := fwhole_pos h0
 have hk : k ≤ 52 := by
  have h1 : 2 ^ k < 2 ^ 53 := by omega
  have := (Nat.pow_lt_pow_iff_right (by omega)).1 h1
  omega
 have hc : fwhole x = (2 * m + 1) * 2 ^ k := by
  rw [h, Nat.pow_succ]
  grind
 by_cases hq : x / 4503599627370496 = 0
 ·refine ⟨fwhole x, 0, k, ?_, p2, .inl rfl, hc, ?_, by omega, by omega, hk⟩
  ·unfold fwhole
   rw [if_pos hq]
   omega
  ·unfold fpow
   rw [if_pos hq]
   omega
 ·refine ⟨fwhole x, x / 4503599627370496 - 1, k, ?_, p2, .inr ?_, hc, ?_, by omega, by omega, hk⟩
  ·unfold fwhole
   rw [if_neg hq]
   omega
  ·unfold fwhole
   rw [if_neg hq]
   omega
  ·unfold fpow
   rw [if_neg hq]
   omega
def PartsQ (x : Nat) (w : World) (e : Ending) (w' : World) : Prop := ∃ m two A n c, e = .returned (.tuple #[.slice A n c, .int .i64 two, .int .i64 0]) ∧ NV w' A n c m ∧ PartIs x m two ∧ Below w.heap.size w w'
theorem PartsP.q {x : Nat} {w w' : World} {e : Ending} (h0 : 0 < x) (hx : x < 9218868437227405312) (h : PartsP x w e w') : PartsQ x w e w' := by
 obtain ⟨k, m, A, n, c, h1, rfl, ⟨h2, h3, h4⟩, h5⟩ := h
 exact ⟨2 * m + 1, _, A, n, c, rfl, ⟨h2.symm, h3, h4⟩, parts_is h0 hx h1, h5⟩
theorem pparts_pos (x : Nat) (w : World) (h0 : 0 < x) (hx : x < 9218868437227405312) (ht : TzTab w) : Cp 54 #[.float .f64 x] w (PartsQ x w) := by
 obtain ⟨h1, h2⟩ := fbad_pos h0 hx
 exact (pparts_ok x w (by omega) h2 (by omega) ht).mono fun e w' h => h.q h0 hx
set_option maxRecDepth 100000 in
set_option maxHeartbeats 1000000 in
theorem tshort_whole (x N : Nat) (w : World) (D : ByteArray) (p : Int)
  (t1 : (FloatKind.f64.format.order x 4845873199050653696 == some .lt) = true)
  (hc : ∀ W : World, (convert 22 71 (.float .f64 x)).run Tryz.prog W = .ok (.int .u64 (N : Int)) W)
  (t2 : (FloatKind.f64.format.order x (floatOfInt FloatKind.f64 (N : Int)) == some .eq) = true)
  (C5 : Hid (∀ W, W = w → Ct 93 #[.int .u64 N, .int .i64 0] (.tuple #[.string D, .int .i64 p]) W)) :
  Ct 40 #[.float .f64 x] (.tuple #[.string D, .int .i64 p]) w := by
 go_enter Tryz.func40, Tryz.ntmps40
 go_wp2_with fail
 refine (C5.out _ rfl).mono ?_
 rintro e w1 ⟨rfl, b1⟩
 go_wp2
 go_ret2
 exact ⟨rfl, b1⟩
def CandQ (r : Nat) (n : Int) (k : Nat) (w : World) (e : Ending) (w' : World) : Prop := ∃ (v : Nat) (b : Bool), e = .returned (.tuple #[.int .u64 (v : Int), .bool b]) ∧ (b = true → ∃ c, cnd r n k = some c ∧ v = c * 10 ^ (18 - k)) ∧ (b = false → cnd r n k = none) ∧ Below w.heap.size w w'
def ShortQ (r : Nat) (w : World) (e : Ending) (w' : World) : Prop := ∃ L p, e = .returned (.tuple #[.string (strOf L), .int .i64 p]) ∧ SQ r L p ∧ Below w.heap.size w w'
def UnitAt (r : Nat) (n : Int) (u : Int) (k : Nat) : Prop := 1 ≤ k ∧ k ≤ 17 ∧ u = ((10 ^ (18 - k) : Nat) : Int) ∧ ∀ j, 1 ≤ j → j < k → cnd r n j = none
theorem UnitAt.next {r k : Nat} {n u : Int} (h : UnitAt r n u k) (hn : cnd r n k = none) (h17 : cnd r n 17 ≠ none) : UnitAt r n (IntKind.u64.wrap (u / 10)) (k + 1) ∧ (IntKind.u64.wrap (u / 10)) = u / 10 := by
 obtain ⟨h1, h2, rfl, h4⟩ := h
 have hk : k ≠ 17 := fun h => h17 (h ▸ hn)
 obtain ⟨i, hi⟩ : ∃ i, 18 - k = i + 1 := ⟨17 - k, by omega⟩
 have e1 : ((10 ^ (18 - k) : Nat) : Int) / 10 = ((10 ^ (18 - (k + 1)) : Nat) : Int) := by
  rw [hi, show 18 - (k + 1) = i by omega, Nat.pow_succ]
  omega
 have hle : 10 ^ (18 - (k + 1)) ≤ 10 ^ 18 := Nat.pow_le_pow_right (by omega) (by omega)
 have e2 : IntKind.u64.wrap (((10 ^ (18 - k) : Nat) : Int) / 10) = ((10 ^ (18 - k) : Nat) : Int) / 10 := by
  rw [e1, IntKind.wrap_u64]
  generalize 10 ^ (18 - (k + 1)) = b at *
  omega
 refine ⟨⟨by omega, by omega, by rw [e2, e1], ?_⟩, e2⟩
 intro j hj1 hj2
 rcases Nat.lt_or_ge j k with h | h
 ·exact h4 j hj1 h
 ·rw [show j = k by omega]
  exact hn
theorem UnitAt.bd {r k : Nat} {n u : Int} (h : UnitAt r n u k) : 0 < u ∧ u ≤ 100000000000000000 := by
 obtain ⟨h1, h2, rfl, h4⟩ := h
 have hle : 10 ^ (18 - k) ≤ 10 ^ 17 := Nat.pow_le_pow_right (by omega) (by omega)
 have := ten_pos (18 - k)
 omega
set_option maxRecDepth 100000 in
set_option maxHeartbeats 2000000 in
theorem tshort_frac (x N : Nat) (n s18 m18 : Int) (w : World) (HH LL : Nat) (ex : Bool) (PM : Nat → Prop)
  (t1 : (FloatKind.f64.format.order x 4845873199050653696 == some .lt) = true)
  (hc : ∀ W : World, (convert 22 71 (.float .f64 x)).run Tryz.prog W = .ok (.int .u64 (N : Int)) W)
  (t2 : (FloatKind.f64.format.order x (floatOfInt FloatKind.f64 (N : Int)) == some .eq) = false)
  (h17 : Hid (cnd x n 17 ≠ none)) (k1 : wrap64 (18 - n) = s18) (k2 : wrap64 (n - 18) = m18)
  (C1 : Hid (∀ W, W = w → Cp 54 #[.float .f64 x] W (PartsQ x W)))
  (C2 : Hid (∀ W A c0 n0 m two, NV W A n0 c0 m → PartIs x m two → Ct 94 #[.slice A n0 c0, .int .i64 two] (.int .i64 n) W))
  (C3 : Hid (∀ W A c0 n0 m two, NV W A n0 c0 m → PartIs x m two → Cp 95 #[.slice A n0 c0, .int .i64 two, .int .i64 s18] W fun e w' => ∃ M : Nat, e = .returned (.agg #[.int .u64 (HH : Nat), .bool ex, .int .u64 (LL : Nat), .int .u64 M]) ∧ PM M ∧ Below W.heap.size W w'))
  (C4 : Hid (∀ W M u k, PM M → UnitAt x n u k → Cp 96 #[.agg #[.int .u64 (HH : Nat), .bool ex, .int .u64 (LL : Nat), .int .u64 M], .int .u64 u] W (CandQ x n k W)))
  (C5 : Hid (∀ W u k c, Below w.heap.size w W → UnitAt x n u k → cnd x n k = some c → Cp 93 #[.int .u64 ((c * 10 ^ (18 - k) : Nat) : Int), .int .i64 m18] W (ShortQ x W))) :
  Cp 40 #[.float .f64 x] w (ShortQ x w) := by
 go_enter Tryz.func40, Tryz.ntmps40
 go_wp2_with fail
 refine (C1.out _ rfl).mono ?_
 rintro e w1 ⟨m, two, A, n0, c0, rfl, g1, hp, b1⟩
 have G1 := Lib.hid g1
 have HP := Lib.hid hp
 have B1 := Lib.hid b1
 clear g1 hp b1
 go_wp2_with fail
 refine (C2.out _ _ _ _ _ _ G1.out HP.out).mono ?_
 rintro e w2 ⟨rfl, b2⟩
 have G2 := Lib.hid (G1.out.step b2)
 have B2 := Lib.hid (below_le B1.out b2)
 clear b2
 go_wp2_with fail
 refine (C3.out _ _ _ _ _ _ G2.out HP.out).mono ?_
 rintro e w3 ⟨M, rfl, hM, b3⟩
 have HM := Lib.hid hM
 have B3 := Lib.hid (below_le B2.out b3)
 clear b3 hM
 go_wp2_with fail
 have B4 := Lib.hid (alloc_below (.cells #[.int .u64 (HH : Nat), .bool ex, .int .u64 (LL : Nat), .int .u64 M] 91) B3.out)
 have R4 := Lib.hid (show Rv (w3.alloc (.cells #[.int .u64 (HH : Nat), .bool ex, .int .u64 (LL : Nat), .int .u64 M] 91)) w3.heap.size #[.int .u64 (HH : Nat), .bool ex, .int .u64 (LL : Nat), .int .u64 M] from heap_alloc_last w3 _)
 have S4 := Lib.hid (show w3.heap.size < (w3.alloc (.cells #[.int .u64 (HH : Nat), .bool ex, .int .u64 (LL : Nat), .int .u64 M] 91)).heap.size from by simp)
 have N4 := Lib.hid (show UnitAt x n 100000000000000000 1 from ⟨by omega, by omega, rfl, fun j h1 h2 => by omega⟩)
 obtain ⟨gb, hgb⟩ : ∃ gb, w3.heap.size = gb := ⟨_, rfl⟩
 rw [hgb] at R4 S4 ⊢
 clear hgb
 generalize w3.alloc (.cells #[.int .u64 (HH : Nat), .bool ex, .int .u64 (LL : Nat), .int .u64 M] 91) = w4 at *
 go_loopw [9] (fun u wr => ∃ (v : Int) (k : Nat), u = .int .u64 v ∧ Hid (UnitAt x n v k) ∧ Hid (Rv wr gb #[.int .u64 (HH : Nat), .bool ex, .int .u64 (LL : Nat), .int .u64 M]) ∧ Hid (Below w.heap.size w wr) ∧ Hid (gb < wr.heap.size)) (fun u _ => (intOf u).toNat)
 case atStart => exact ⟨_, 1, rfl, N4, R4, B4, S4⟩
 case round =>
  obtain ⟨v, k, rfl, NK, R5, B5, S5⟩ := hrel
  obtain ⟨v0, v1⟩ := NK.out.bd
  have d0 : wr.cell? ⟨gb, 0, none⟩ = some (.int .u64 (HH : Nat)) := cell_of_row wr gb 0 _ 91 (0, 0) R5.out
  have d1 : wr.cell? ⟨gb, 1, none⟩ = some (.bool ex) := cell_of_row wr gb 1 _ 91 (0, 0) R5.out
  have d2 : wr.cell? ⟨gb, 2, none⟩ = some (.int .u64 (LL : Nat)) := cell_of_row wr gb 2 _ 91 (0, 0) R5.out
  have d3 : wr.cell? ⟨gb, 3, none⟩ = some (.int .u64 M) := cell_of_row wr gb 3 _ 91 (0, 0) R5.out
  go_wp2_with fail
  refine (C4.out _ _ _ _ HM.out NK.out).mono ?_
  rintro e w6 ⟨v', b, rfl, hb1, hb0, b6⟩
  have HB1 := Lib.hid hb1
  have HB0 := Lib.hid hb0
  have B6 := Lib.hid (below_le B5.out b6)
  have R6 := Lib.hid (show Rv w6 gb _ from (b6.block _ S5.out).trans R5.out)
  have S6 := Lib.hid (Nat.lt_of_lt_of_le S5.out b6.size)
  clear hb1 hb0 b6 d0 d1 d2 d3
  cases b
  ·have hn := HB0.out rfl
   obtain ⟨u1, u2⟩ := NK.out.next hn h17.out
   rw [u2] at u1
   have NN := Lib.hid u1
   clear hn u1 u2
   go_wp2
   go_roundw
   case rel => exact ⟨_, k + 1, rfl, NN, R6, B6, S6⟩
   case measure => simp [intOf]; omega
  ·obtain ⟨c, hc, rfl⟩ := HB1.out rfl
   have HC := Lib.hid hc
   clear hc
   go_wp2_with fail
   refine (C5.out _ _ _ _ B6.out NK.out HC.out).mono ?_
   rintro e w7 ⟨L, p, rfl, hq, b7⟩
   have HQ := Lib.hid hq
   have B7 := Lib.hid (below_le B6.out b7)
   clear hq b7
   go_wp2
   go_ret2
   exact ⟨L, p, rfl, HQ.out, B7.out⟩
set_option maxRecDepth 100000 in
set_option maxHeartbeats 2000000 in
theorem tshort_high (x : Nat) (n s18 m18 : Int) (w : World) (HH LL : Nat) (ex : Bool) (PM : Nat → Prop)
  (t1 : (FloatKind.f64.format.order x 4845873199050653696 == some .lt) = false)
  (h17 : Hid (cnd x n 17 ≠ none)) (k1 : wrap64 (18 - n) = s18) (k2 : wrap64 (n - 18) = m18)
  (C1 : Hid (∀ W, W = w → Cp 54 #[.float .f64 x] W (PartsQ x W)))
  (C2 : Hid (∀ W A c0 n0 m two, NV W A n0 c0 m → PartIs x m two → Ct 94 #[.slice A n0 c0, .int .i64 two] (.int .i64 n) W))
  (C3 : Hid (∀ W A c0 n0 m two, NV W A n0 c0 m → PartIs x m two → Cp 95 #[.slice A n0 c0, .int .i64 two, .int .i64 s18] W fun e w' => ∃ M : Nat, e = .returned (.agg #[.int .u64 (HH : Nat), .bool ex, .int .u64 (LL : Nat), .int .u64 M]) ∧ PM M ∧ Below W.heap.size W w'))
  (C4 : Hid (∀ W M u k, PM M → UnitAt x n u k → Cp 96 #[.agg #[.int .u64 (HH : Nat), .bool ex, .int .u64 (LL : Nat), .int .u64 M], .int .u64 u] W (CandQ x n k W)))
  (C5 : Hid (∀ W u k c, Below w.heap.size w W → UnitAt x n u k → cnd x n k = some c → Cp 93 #[.int .u64 ((c * 10 ^ (18 - k) : Nat) : Int), .int .i64 m18] W (ShortQ x W))) :
  Cp 40 #[.float .f64 x] w (ShortQ x w) := by
 go_enter Tryz.func40, Tryz.ntmps40
 go_wp2_with fail
 refine (C1.out _ rfl).mono ?_
 rintro e w1 ⟨m, two, A, n0, c0, rfl, g1, hp, b1⟩
 have G1 := Lib.hid g1
 have HP := Lib.hid hp
 have B1 := Lib.hid b1
 clear g1 hp b1
 go_wp2_with fail
 refine (C2.out _ _ _ _ _ _ G1.out HP.out).mono ?_
 rintro e w2 ⟨rfl, b2⟩
 have G2 := Lib.hid (G1.out.step b2)
 have B2 := Lib.hid (below_le B1.out b2)
 clear b2
 go_wp2_with fail
 refine (C3.out _ _ _ _ _ _ G2.out HP.out).mono ?_
 rintro e w3 ⟨M, rfl, hM, b3⟩
 have HM := Lib.hid hM
 have B3 := Lib.hid (below_le B2.out b3)
 clear b3 hM
 go_wp2_with fail
 have B4 := Lib.hid (alloc_below (.cells #[.int .u64 (HH : Nat), .bool ex, .int .u64 (LL : Nat), .int .u64 M] 91) B3.out)
 have R4 := Lib.hid (show Rv (w3.alloc (.cells #[.int .u64 (HH : Nat), .bool ex, .int .u64 (LL : Nat), .int .u64 M] 91)) w3.heap.size #[.int .u64 (HH : Nat), .bool ex, .int .u64 (LL : Nat), .int .u64 M] from heap_alloc_last w3 _)
 have S4 := Lib.hid (show w3.heap.size < (w3.alloc (.cells #[.int .u64 (HH : Nat), .bool ex, .int .u64 (LL : Nat), .int .u64 M] 91)).heap.size from by simp)
 have N4 := Lib.hid (show UnitAt x n 100000000000000000 1 from ⟨by omega, by omega, rfl, fun j h1 h2 => by omega⟩)
 obtain ⟨gb, hgb⟩ : ∃ gb, w3.heap.size = gb := ⟨_, rfl⟩
 rw [hgb] at R4 S4 ⊢
 clear hgb
 generalize w3.alloc (.cells #[.int .u64 (HH : Nat), .bool ex, .int .u64 (LL : Nat), .int .u64 M] 91) = w4 at *
 go_loopw [9] (fun u wr => ∃ (v : Int) (k : Nat), u = .int .u64 v ∧ Hid (UnitAt x n v k) ∧ Hid (Rv wr gb #[.int .u64 (HH : Nat), .bool ex, .int .u64 (LL : Nat), .int .u64 M]) ∧ Hid (Below w.heap.size w wr) ∧ Hid (gb < wr.heap.size)) (fun u _ => (intOf u).toNat)
 case atStart => exact ⟨_, 1, rfl, N4, R4, B4, S4⟩
 case round =>
  obtain ⟨v, k, rfl, NK, R5, B5, S5⟩ := hrel
  obtain ⟨v0, v1⟩ := NK.out.bd
  have d0 : wr.cell? ⟨gb, 0, none⟩ = some (.int .u64 (HH : Nat)) := cell_of_row wr gb 0 _ 91 (0, 0) R5.out
  have d1 : wr.cell? ⟨gb, 1, none⟩ = some (.bool ex) := cell_of_row wr gb 1 _ 91 (0, 0) R5.out
  have d2 : wr.cell? ⟨gb, 2, none⟩ = some (.int .u64 (LL : Nat)) := cell_of_row wr gb 2 _ 91 (0, 0) R5.out
  have d3 : wr.cell? ⟨gb, 3, none⟩ = some (.int .u64 M) := cell_of_row wr gb 3 _ 91 (0, 0) R5.out
  go_wp2_with fail
  refine (C4.out _ _ _ _ HM.out NK.out).mono ?_
  rintro e w6 ⟨v', b, rfl, hb1, hb0, b6⟩
  have HB1 := Lib.hid hb1
  have HB0 := Lib.hid hb0
  have B6 := Lib.hid (below_le B5.out b6)
  have R6 := Lib.hid (show Rv w6 gb _ from (b6.block _ S5.out).trans R5.out)
  have S6 := Lib.hid (Nat.lt_of_lt_of_le S5.out b6.size)
  clear hb1 hb0 b6 d0 d1 d2 d3
  cases b
  ·have hn := HB0.out rfl
   obtain ⟨u1, u2⟩ := NK.out.next hn h17.out
   rw [u2] at u1
   have NN := Lib.hid u1
   clear hn u1 u2
   go_wp2
   go_roundw
   case rel => exact ⟨_, k + 1, rfl, NN, R6, B6, S6⟩
   case measure => simp [intOf]; omega
  ·obtain ⟨c, hc, rfl⟩ := HB1.out rfl
   have HC := Lib.hid hc
   clear hc
   go_wp2_with fail
   refine (C5.out _ _ _ _ B6.out NK.out HC.out).mono ?_
   rintro e w7 ⟨L, p, rfl, hq, b7⟩
   have HQ := Lib.hid hq
   have B7 := Lib.hid (below_le B6.out b7)
   clear hq b7
   go_wp2
   go_ret2
   exact ⟨L, p, rfl, HQ.out, B7.out⟩

end Go.Proofs.YtfcpkdafkmohkaaGreatDoor
namespace Go.Proofs.YtfcpkdafkmohkaaGreatDoor
open Go.RowKit
theorem point_ex {r m : Nat} {two : Int} (h : PartIs r m two) : ∃ p : Int, PointAt (fmag r) big p ∧ -345 ≤ p ∧ p ≤ 335 := by
 obtain ⟨q1, q2, q3, q4, q5, q6⟩ := h.pos
 have hx := vcross h
 obtain ⟨u1, u2, u3⟩ := bln_bounds q1
 obtain ⟨k, hk⟩ : ∃ k, bln m = k + 1 := ⟨bln m - 1, by omega⟩
 rw [hk] at u1 u2 q2 q3 q4
 rw [Nat.add_sub_cancel] at u1
 obtain ⟨e, he⟩ : ∃ e, (k : Int) + two = e := ⟨_, rfl⟩
 obtain ⟨l1, l2⟩ := lead_at u1 u2 he
 obtain ⟨p1, p2⟩ := point_lg (u := m * 2 ^ two.toNat) (v := 2 ^ (-two).toNat) (e := e) (two_pos _) (by omega) (by omega) l1 l2
 obtain ⟨n1, hn1⟩ : ∃ n1, lg2 e + 1 = n1 := ⟨_, rfl⟩
 have b1 : -345 ≤ n1 ∧ n1 ≤ 333 := by unfold lg2 at hn1; omega
 rw [hn1] at p1 p2
 rw [show lg2 e + 2 = n1 + 1 by omega] at p2
 by_cases hh : le10 n1 (m * 2 ^ two.toNat) (2 ^ (-two).toNat)
 ·exact ⟨n1 + 1, point_cross (two_pos _) big_pos hx (p2 hh), by omega, by omega⟩
 ·exact ⟨n1, point_cross (two_pos _) big_pos hx (p1 hh), by omega, by omega⟩
theorem tpoint_is {w : World} {A : Option Addr} {n0 c0 r m : Nat} {two n : Int} (hA : NV w A n0 c0 m) (h : PartIs r m two) (hp : PointAt (fmag r) big n) :
  Ct 94 #[.slice A n0 c0, .int .i64 two] (.int .i64 n) w := by
 obtain ⟨q1, q2, q3, q4, q5, q6⟩ := h.pos
 obtain ⟨p, p1, p2, p3, hc⟩ := tpoint_any two hA q1 (by omega) (by omega) (by omega)
 have := point_one (point_cross (two_pos _) big_pos (vcross h) p1) hp
 subst this
 exact hc
theorem part_ex {x : Nat} (h0 : 0 < x) (hx : x < 9218868437227405312) : ∃ m two, PartIs x m two := by
 obtain ⟨k, m, h⟩ := odd_part _ (fwhole_pos h0).1
 exact ⟨_, _, parts_is h0 hx h⟩
theorem flo_of (N : Nat) : floatOfInt FloatKind.f64 (N : Int) = fl N := rfl
theorem tz_on {w w' : World} (h : TzTab w) (hb : Below w.heap.size w w') : TzTab w' := by
 intro i hi
 have h1 := h i hi
 have hlt : 1 < w.heap.size := by
  rcases Nat.lt_or_ge 1 w.heap.size with h2 | h2
  ·exact h2
  ·rw [World.cell?, Array.getElem?_eq_none h2] at h1
   cases h1
 rw [hb.cell (p := ⟨1, i, none⟩) hlt]
 exact h1
theorem tshortest_any (x : Nat) (w : World) (h0 : 0 < x) (hx : x < 9218868437227405312) (ht : Tab10 w) (hz : TzTab w) : Cp 40 #[.float .f64 x] w (ShortQ x w) := by
 obtain ⟨m0, two0, hp0⟩ := part_ex h0 hx
 obtain ⟨n, hn, n1, n2⟩ := point_ex hp0
 have h17 := Lib.hid (cnd_ends hn h0 hx)
 obtain ⟨T, hT⟩ : ∃ T, fmag x / big = T := ⟨_, rfl⟩
 have C1 : Hid (∀ W, W = w → Cp 54 #[.float .f64 x] W (PartsQ x W)) := Lib.hid (fun W (h : W = w) => by
  subst h
  exact pparts_pos x W h0 hx hz)
 have C2 := Lib.hid (fun W A c0 n0 m two (h : NV W A n0 c0 m) (hp : PartIs x m two) => tpoint_is h hp hn)
 have C3 : Hid (∀ W A c0 n0 m two, NV W A n0 c0 m → PartIs x m two → Cp 95 #[.slice A n0 c0, .int .i64 two, .int .i64 (18 - n)] W fun e w' => ∃ M : Nat, e = .returned (.agg #[.int .u64 ((vU x (18 - n) / vV (18 - n) : Nat) : Int), .bool (decide (vU x (18 - n) % vV (18 - n) = 0)), .int .u64 ((leastOf (vV (18 - n)) (10 ^ ((18 : Int) - n).toNat) x : Nat) : Int), .int .u64 M]) ∧ (∀ c, c ≤ M ↔ mostLe (vV (18 - n)) (10 ^ ((18 : Int) - n).toNat) x c) ∧ Below W.heap.size W w') :=
  Lib.hid (fun W A c0 n0 m two h hp => tspan_any h hp h0 hn n1 n2)
 obtain ⟨hH, _⟩ := here_lt hn
 have C4 : Hid (∀ W M u k, (∀ c, c ≤ M ↔ mostLe (vV (18 - n)) (10 ^ ((18 : Int) - n).toNat) x c) → UnitAt x n u k → Cp 96 #[.agg #[.int .u64 ((vU x (18 - n) / vV (18 - n) : Nat) : Int), .bool (decide (vU x (18 - n) % vV (18 - n) = 0)), .int .u64 ((leastOf (vV (18 - n)) (10 ^ ((18 : Int) - n).toNat) x : Nat) : Int), .int .u64 M], .int .u64 u] W (CandQ x n k W)) :=
  Lib.hid (fun W M u k hM hu => by
   obtain ⟨b1, b2⟩ := hu.bd
   obtain ⟨k1, k2, rfl, _⟩ := hu
   refine (tcand_any _ _ M (10 ^ (18 - k)) _ W (ten_pos _) (by omega)).mono ?_
   rintro e w' ⟨rfl, hw⟩
   rw [pcn_cnd (k := k) (i := 18 - k) (by omega) (by omega) h0 hx hM]
   unfold candV
   refine ⟨_, _, rfl, ?_, ?_, hw⟩
   ·intro h
    cases hc : cnd x n k with
    | none => rw [hc] at h; cases h
    | some c => exact ⟨c, rfl, rfl⟩
   ·intro h
    cases hc : cnd x n k with
    | none => rfl
    | some c => rw [hc] at h; cases h)
 have C5 : Hid (∀ W u k c, Below w.heap.size w W → UnitAt x n u k → cnd x n k = some c → Cp 93 #[.int .u64 ((c * 10 ^ (18 - k) : Nat) : Int), .int .i64 (n - 18)] W (ShortQ x W)) :=
  Lib.hid (fun W u k c hW hu hc => by
   obtain ⟨k1, k2, _, k4⟩ := hu
   have hl := cnd_last hn k1 k4 hc
   have hlt : c * 10 ^ (18 - k) < 10 ^ 19 := by
    have h10 : c ≤ 10 ^ k := by
     rcases hl with ⟨_, _, h⟩ | ⟨h1, h2⟩
     ·omega
     ·rw [h1, h2]; omega
    have h1 : c * 10 ^ (18 - k) ≤ 10 ^ k * 10 ^ (18 - k) := Nat.mul_le_mul_right _ h10
    rw [← Nat.pow_add, show k + (18 - k) = 18 by omega] at h1
    omega
   refine (ttrimmed_any (c * 10 ^ (18 - k)) (n - 18) W (by omega) (by omega) (by omega) (ht.on hW)).mono ?_
   rintro e w' ⟨rfl, hw⟩
   have hc0 : 0 < c := by
    rcases hl with ⟨h, _⟩ | ⟨_, h⟩ <;> omega
   rw [dL_zeros hc0, trz_rep, List.length_append, List.length_replicate]
   refine ⟨_, _, rfl, ⟨n, k, c, hn, k1, k2, k4, hc, rfl, ?_⟩, hw⟩
   omega)
 rcases Nat.lt_or_ge x 4845873199050653696 with hlt | hge
 ·have hTl := trunc_lt hlt
  rw [hT] at hTl
  have t1 : (FloatKind.f64.format.order x 4845873199050653696 == some .lt) = true := by rw [ord_lt_pos (by omega) (by omega)]; exact decide_eq_true hlt
  have hcv := fun W => conv_u64 hx hT (by omega) W
  have heq := float_whole (x := x) hx hTl
  rw [← flo_of] at heq
  by_cases hw : fmag x = T * big
  ·rw [decide_eq_true hw] at heq
   have hT0 : 0 < T := by
    rcases Nat.eq_zero_or_pos T with h | h
    ·rw [h, Nat.zero_mul] at hw
     have := fmag_pos.2 h0
     omega
    ·exact h
   refine (tshort_whole x T w _ _ t1 hcv heq (Lib.hid fun W h => by
    subst h
    exact ttrimmed_any T 0 W (by omega) (by omega) (by omega) ht)).mono ?_
   rintro e w' ⟨rfl, hb⟩
   refine ⟨_, _, rfl, ?_, hb⟩
   have := sq_whole hT0 hTl hx hw
   rw [Int.add_zero]
   exact this
  ·rw [decide_eq_false hw] at heq
   exact tshort_frac x T n _ _ w _ _ _ _ t1 hcv heq h17 (by unfold wrap64; omega) (by unfold wrap64; omega) C1 C2 C3 C4 C5
 ·have t1 : (FloatKind.f64.format.order x 4845873199050653696 == some .lt) = false := by rw [ord_lt_pos (by omega) (by omega)]; exact decide_eq_false (by omega)
  exact tshort_high x n _ _ w _ _ _ _ t1 h17 (by unfold wrap64; omega) (by unfold wrap64; omega) C1 C2 C3 C4 C5

end Go.Proofs.YtfcpkdafkmohkaaGreatDoor
namespace Go.Proofs.YtfcpkdafkmohkaaGreatDoor
open Go.RowKit
set_option maxRecDepth 100000 in
set_option maxHeartbeats 1000000 in
theorem tsigned_00nan (x : Nat) (f : FuncId) (F : ByteArray) (w : World) (t0 : (FloatKind.f64.format.order x 0 == some .lt) = false)
  (CN : Hid (∀ W, Cq 34 #[.float .f64 x] (.bool true) W))
  (CW : Hid (∀ W, Ct 41 #[.string ⟨#[78, 97, 78]⟩] (.string F) W)) :
  Ct 43 #[.float .f64 x, .func (Fn.func f) #[] #[]] (.string F) w := by
 go_enter Tryz.func43, Tryz.ntmps43
 go_wp2_with fail
 refine (CN.out _).mono ?_
 rintro e w' ⟨rfl, rfl⟩
 go_wp2_with fail
 refine (CW.out _).mono ?_
 rintro e w2 ⟨rfl, b2⟩
 have B2 := Lib.hid (below_le (Below.refl _ _) b2)
 clear b2
 go_wp2
 go_ret
 exact ⟨rfl, B2.out⟩
set_option maxRecDepth 100000 in
set_option maxHeartbeats 1000000 in
theorem tsigned_00inf (x : Nat) (f : FuncId) (F : ByteArray) (w : World) (t0 : (FloatKind.f64.format.order x 0 == some .lt) = false)
  (CN : Hid (∀ W, Cq 34 #[.float .f64 x] (.bool false) W))
  (CI : Hid (∀ W, Cq 36 #[.float .f64 x, .int .i64 0] (.bool true) W))
  (CW : Hid (∀ W, Ct 41 #[.string ⟨#[73, 110, 102, 105, 110, 105, 116, 121]⟩] (.string F) W)) :
  Ct 43 #[.float .f64 x, .func (Fn.func f) #[] #[]] (.string F) w := by
 go_enter Tryz.func43, Tryz.ntmps43
 go_wp2_with fail
 refine (CN.out _).mono ?_
 rintro e w' ⟨rfl, rfl⟩
 go_wp2_with fail
 refine (CI.out _).mono ?_
 rintro e w' ⟨rfl, rfl⟩
 go_wp2_with fail
 refine (CW.out _).mono ?_
 rintro e w2 ⟨rfl, b2⟩
 have B2 := Lib.hid (below_le (Below.refl _ _) b2)
 clear b2
 go_wp2
 go_ret
 exact ⟨rfl, B2.out⟩
set_option maxRecDepth 100000 in
set_option maxHeartbeats 1000000 in
theorem tsigned_00fin (x : Nat) (f : FuncId) (R S : ByteArray) (r : Nat) (F : ByteArray) (w : World) (t0 : (FloatKind.f64.format.order x 0 == some .lt) = false)
  (CN : Hid (∀ W, Cq 34 #[.float .f64 x] (.bool false) W))
  (CI : Hid (∀ W, Cq 36 #[.float .f64 x, .int .i64 0] (.bool false) W))
  (CA : Hid (∀ W, Cq 52 #[.float .f64 x] (.float .f64 r) W))
  (he : ∀ args (W : World), (callFunc f args).run Tryz.prog W = .ok (.enter f args) W)
  (CT : Hid (∀ W, W = w → Ct f #[.float .f64 r] (.string R) W))
  (hR : Hid (R.size ≤ 1000000)) (hS : ⟨#[]⟩ ++ R = S)
  (CW : Hid (∀ W, Ct 41 #[.string S] (.string F) W)) :
  Ct 43 #[.float .f64 x, .func (Fn.func f) #[] #[]] (.string F) w := by
 have g1 : ¬ 9223372036854775807 < R.size := by have := hR.out; omega
 go_enter Tryz.func43, Tryz.ntmps43
 go_wp2_with fail
 refine (CN.out _).mono ?_
 rintro e w' ⟨rfl, rfl⟩
 go_wp2_with fail
 refine (CI.out _).mono ?_
 rintro e w' ⟨rfl, rfl⟩
 go_wp2_with fail
 refine (CA.out _).mono ?_
 rintro e w' ⟨rfl, rfl⟩
 go_wp2_with fail
 refine (CT.out _ rfl).mono ?_
 rintro e w1 ⟨rfl, b1⟩
 have B1 := Lib.hid b1
 clear b1
 go_wp2_with fail
 refine (CW.out _).mono ?_
 rintro e w2 ⟨rfl, b2⟩
 have B2 := Lib.hid (below_le B1.out b2)
 clear b2
 go_wp2
 go_ret
 exact ⟨rfl, B2.out⟩
set_option maxRecDepth 100000 in
set_option maxHeartbeats 1000000 in
theorem tsigned_01inf (x : Nat) (f : FuncId) (F : ByteArray) (w : World) (t0 : (FloatKind.f64.format.order x 0 == some .lt) = true)
  (CN : Hid (∀ W, Cq 34 #[.float .f64 x] (.bool false) W))
  (CI : Hid (∀ W, Cq 36 #[.float .f64 x, .int .i64 0] (.bool true) W))
  (CW : Hid (∀ W, Ct 41 #[.string ⟨#[45, 73, 110, 102, 105, 110, 105, 116, 121]⟩] (.string F) W)) :
  Ct 43 #[.float .f64 x, .func (Fn.func f) #[] #[]] (.string F) w := by
 go_enter Tryz.func43, Tryz.ntmps43
 go_wp2_with fail
 refine (CN.out _).mono ?_
 rintro e w' ⟨rfl, rfl⟩
 go_wp2_with fail
 refine (CI.out _).mono ?_
 rintro e w' ⟨rfl, rfl⟩
 go_wp2_with fail
 refine (CW.out _).mono ?_
 rintro e w2 ⟨rfl, b2⟩
 have B2 := Lib.hid (below_le (Below.refl _ _) b2)
 clear b2
 go_wp2
 go_ret
 exact ⟨rfl, B2.out⟩
set_option maxRecDepth 100000 in
set_option maxHeartbeats 1000000 in
theorem tsigned_01fin (x : Nat) (f : FuncId) (R S : ByteArray) (r : Nat) (F : ByteArray) (w : World) (t0 : (FloatKind.f64.format.order x 0 == some .lt) = true)
  (CN : Hid (∀ W, Cq 34 #[.float .f64 x] (.bool false) W))
  (CI : Hid (∀ W, Cq 36 #[.float .f64 x, .int .i64 0] (.bool false) W))
  (CA : Hid (∀ W, Cq 52 #[.float .f64 x] (.float .f64 r) W))
  (he : ∀ args (W : World), (callFunc f args).run Tryz.prog W = .ok (.enter f args) W)
  (CT : Hid (∀ W, W = w → Ct f #[.float .f64 r] (.string R) W))
  (hR : Hid (R.size ≤ 1000000)) (hS : ⟨#[45]⟩ ++ R = S)
  (CW : Hid (∀ W, Ct 41 #[.string S] (.string F) W)) :
  Ct 43 #[.float .f64 x, .func (Fn.func f) #[] #[]] (.string F) w := by
 have g1 : ¬ 9223372036854775807 < 1 + R.size := by have := hR.out; omega
 go_enter Tryz.func43, Tryz.ntmps43
 go_wp2_with fail
 refine (CN.out _).mono ?_
 rintro e w' ⟨rfl, rfl⟩
 go_wp2_with fail
 refine (CI.out _).mono ?_
 rintro e w' ⟨rfl, rfl⟩
 go_wp2_with fail
 refine (CA.out _).mono ?_
 rintro e w' ⟨rfl, rfl⟩
 go_wp2_with fail
 refine (CT.out _ rfl).mono ?_
 rintro e w1 ⟨rfl, b1⟩
 have B1 := Lib.hid b1
 clear b1
 go_wp2_with fail
 refine (CW.out _).mono ?_
 rintro e w2 ⟨rfl, b2⟩
 have B2 := Lib.hid (below_le B1.out b2)
 clear b2
 go_wp2
 go_ret
 exact ⟨rfl, B2.out⟩
end Go.Proofs.YtfcpkdafkmohkaaGreatDoor
namespace Go.Proofs.YtfcpkdafkmohkaaGreatDoor
open Go.RowKit
set_option maxRecDepth 100000 in
theorem tplain_zero (x : Nat) (w : World) (t0 : (FloatKind.f64.format.order x 0 == some .eq) = true) : Cq 44 #[.float .f64 x] (.string ⟨#[48]⟩) w := by
 go_enter Tryz.func44, Tryz.ntmps44
 go_wp2
 go_ret
 exact ⟨rfl, rfl⟩
set_option maxRecDepth 100000 in
set_option maxHeartbeats 1000000 in
theorem tplain_low (x : Nat) (N : Int) (S F : ByteArray) (w : World) (t0 : (FloatKind.f64.format.order x 0 == some .eq) = false) (b1 : -1000 ≤ N) (b2 : N ≤ 1000) (h1 : N ≤ -6)
  (CS : Hid (∀ W, Below w.heap.size w W → Ct 59 #[.string S, .int .i64 (N - 1)] (.string F) W))
  (C : Hid (∀ W, W = w → Ct 40 #[.float .f64 x] (.tuple #[.string S, .int .i64 N]) W)) :
  Ct 44 #[.float .f64 x] (.string F) w := by
 go_enter Tryz.func44, Tryz.ntmps44
 go_wp2_with fail
 refine (C.out _ rfl).mono ?_
 rintro e w1 ⟨rfl, b1'⟩
 have B1 := Lib.hid b1'
 clear b1'
 go_wp2_with fail
 refine (CS.out _ B1.out).mono ?_
 rintro e w2 ⟨rfl, b2'⟩
 have B2 := Lib.hid (below_le B1.out b2')
 clear b2'
 go_wp2
 go_ret
 exact ⟨rfl, B2.out⟩
set_option maxRecDepth 100000 in
set_option maxHeartbeats 1000000 in
theorem tplain_high (x : Nat) (N : Int) (S F : ByteArray) (w : World) (t0 : (FloatKind.f64.format.order x 0 == some .eq) = false) (b1 : -1000 ≤ N) (b2 : N ≤ 1000) (h1 : 21 < N)
  (CS : Hid (∀ W, Below w.heap.size w W → Ct 59 #[.string S, .int .i64 (N - 1)] (.string F) W))
  (C : Hid (∀ W, W = w → Ct 40 #[.float .f64 x] (.tuple #[.string S, .int .i64 N]) W)) :
  Ct 44 #[.float .f64 x] (.string F) w := by
 have h2 : ¬ N ≤ -6 := by omega
 go_enter Tryz.func44, Tryz.ntmps44
 go_wp2_with fail
 refine (C.out _ rfl).mono ?_
 rintro e w1 ⟨rfl, b1'⟩
 have B1 := Lib.hid b1'
 clear b1'
 go_wp2_with fail
 refine (CS.out _ B1.out).mono ?_
 rintro e w2 ⟨rfl, b2'⟩
 have B2 := Lib.hid (below_le B1.out b2')
 clear b2'
 go_wp2
 go_ret
 exact ⟨rfl, B2.out⟩
set_option maxRecDepth 100000 in
set_option maxHeartbeats 1000000 in
theorem tplain_whole (x : Nat) (N : Int) (n z : Nat) (S F : ByteArray) (w : World) (t0 : (FloatKind.f64.format.order x 0 == some .eq) = false) (b1 : -1000 ≤ N) (b2 : N ≤ 1000) (h1 : -6 < N) (h2 : N ≤ 21) (hn : S.size = n) (h3 : (n : Int) ≤ N) (hz : N - (n : Int) = (z : Int)) (Z : ByteArray) (hZ : Hid (Z.size ≤ 1000)) (hF : S ++ Z = F)
  (CR : Hid (∀ W, Ct 106 #[.string ⟨#[48]⟩, .int .i64 z] (.string Z) W))
  (C : Hid (∀ W, W = w → Ct 40 #[.float .f64 x] (.tuple #[.string S, .int .i64 N]) W)) :
  Ct 44 #[.float .f64 x] (.string F) w := by
 have h4 : ¬ N ≤ -6 := by omega
 have h5 : ¬ 21 < N := by omega
 have h6 : 0 ≤ (n : Int) := by omega
 have g1 : ¬ 9223372036854775807 < n + Z.size := by have := hZ.out; omega
 have hzz := Lib.hid hz
 go_enter Tryz.func44, Tryz.ntmps44
 go_wp2_with fail
 refine (C.out _ rfl).mono ?_
 rintro e w1 ⟨rfl, b1'⟩
 have B1 := Lib.hid b1'
 clear b1'
 go_wp2_with fail
 refine (CR.out _).mono ?_
 rintro e w2 ⟨rfl, b2'⟩
 have B2 := Lib.hid (below_le B1.out b2')
 clear b2'
 go_wp2
 go_ret
 exact ⟨rfl, B2.out⟩
set_option maxRecDepth 100000 in
set_option maxHeartbeats 1000000 in
theorem tplain_point (x : Nat) (N : Int) (n z : Nat) (S F : ByteArray) (w : World) (t0 : (FloatKind.f64.format.order x 0 == some .eq) = false) (b1 : -1000 ≤ N) (b2 : N ≤ 1000) (h1 : -6 < N) (h2 : N ≤ 21) (hn : S.size = n) (h3 : N < (n : Int)) (hn2 : (n : Int) ≤ 1000) (hz : (n : Int) - N = (z : Int))
  (CP : Hid (∀ W, Ct 55 #[.string S, .int .i64 z] (.string F) W))
  (C : Hid (∀ W, W = w → Ct 40 #[.float .f64 x] (.tuple #[.string S, .int .i64 N]) W)) :
  Ct 44 #[.float .f64 x] (.string F) w := by
 have h4 : ¬ N ≤ -6 := by omega
 have h5 : ¬ 21 < N := by omega
 have h7 : ¬ (n : Int) ≤ N := by omega
 go_enter Tryz.func44, Tryz.ntmps44
 go_wp2_with fail
 refine (C.out _ rfl).mono ?_
 rintro e w1 ⟨rfl, b1'⟩
 have B1 := Lib.hid b1'
 clear b1'
 go_wp2_with fail
 refine (CP.out _).mono ?_
 rintro e w2 ⟨rfl, b2'⟩
 have B2 := Lib.hid (below_le B1.out b2')
 clear b2'
 go_wp2
 go_ret
 exact ⟨rfl, B2.out⟩

end Go.Proofs.YtfcpkdafkmohkaaGreatDoor
namespace Go.Proofs.YtfcpkdafkmohkaaGreatDoor
open Go.RowKit
theorem SQ.form {r : Nat} {D : List Nat} {N : Int} (h : SQ r D N) : ∃ d, d % 10 ≠ 0 ∧ D = dL d ∧ D.length ≤ 17 ∧ decR d (N - D.length) = r := by
 obtain ⟨n, k, c, h1, h2, h3, h4, h5, h6, h7⟩ := h
 have hd := (cnd_some h5).2
 rcases cnd_last h1 h2 h4 h5 with ⟨g1, g2, g3⟩ | ⟨g1, g2⟩
 ·obtain ⟨j, rfl⟩ : ∃ j, k = j + 1 := ⟨k - 1, by omega⟩
  have hl := dL_len (n := c) (k := j) g2 g3
  have e := dL_last g1
  rw [e] at h6
  refine ⟨c, g1, h6, by rw [h6, hl]; exact h3, ?_⟩
  rw [h6, h7, show ((dL c).length : Int) + n - ((j + 1 : Nat) : Int) - ((dL c).length : Int) = n - ((j + 1 : Nat) : Int) by omega]
  exact hd
 ·subst g1 g2
  have e : dL 10 = [49, 48] := by rw [dL_big (by omega), dL_small (by omega)]; rfl
  have e1 : dL 1 = [49] := dL_small (by omega)
  have h8 := decR_shift 1 1 (n - 1)
  rw [show 1 * 10 ^ 1 = 10 from rfl, show n - 1 + ((1 : Nat) : Int) = n by omega] at h8
  rw [e] at h6 h7
  have h9 : D = [49] := h6
  refine ⟨1, by omega, by rw [h9, e1], by rw [h9]; simp, ?_⟩
  rw [h9, h7, show (([49, 48] : List Nat).length : Int) + n - ((1 : Nat) : Int) - (([49] : List Nat).length : Int) = n by simp; omega]
  rw [← h8]
  exact hd
theorem SQ.bd {r : Nat} {D : List Nat} {N : Int} (h : SQ r D N) (h0 : 0 < r) (hr : r < 9218868437227405312) : -400 ≤ N ∧ N ≤ 400 ∧ 1 ≤ D.length ∧ D.length ≤ 17 ∧ (∀ c ∈ D, c < 256) := by
 obtain ⟨d, _, hD, hl, _⟩ := h.form
 obtain ⟨n, k, c, h1, h2, h3, h4, h5, h6, h7⟩ := h
 obtain ⟨m, two, hp⟩ := part_ex h0 hr
 obtain ⟨p, p1, p2, p3⟩ := point_ex hp
 have := point_one h1 p1
 subst this
 have hc : (dL c).length ≤ 18 ∧ 1 ≤ (dL c).length := by
  refine ⟨?_, dL_pos c⟩
  have hlt : c < 10 ^ 18 := by
   rcases cnd_last h1 h2 h4 h5 with ⟨_, _, g⟩ | ⟨_, g⟩
   ·have := Nat.pow_le_pow_right (n := 10) (by omega) (show k ≤ 18 by omega)
    omega
   ·omega
  exact dL_le hlt (by omega)
 refine ⟨by omega, by omega, ?_, hl, ?_⟩
 ·rw [hD]; exact dL_pos d
 ·intro x hx
  rw [hD] at hx
  have := dg10_iff.1 (dL_dig d x hx)
  omega
def plL (D : List Nat) (N : Int) : List Nat :=
 if N ≤ -6 ∨ 21 < N then scL D (N - 1) else if (D.length : Int) ≤ N then D ++ List.replicate (N - D.length).toNat 48 else ptL D ((D.length : Int) - N).toNat
def PlQ (r : Nat) (L : List Nat) : Prop := (r = 0 ∧ L = [48]) ∨ (0 < r ∧ ∃ D N, SQ r D N ∧ L = plL D N)
theorem scL_lt {l : List Nat} {e : Int} (hl : ∀ c ∈ l, c < 256) : ∀ c ∈ scL l e, c < 256 := by
 intro c hc
 unfold scL at hc
 rw [List.mem_append, List.mem_append] at hc
 rcases hc with (hc | hc) | hc
 ·exact mnL_lt hl c hc
 ·unfold sgL at hc
  split at hc <;> simp at hc <;> omega
 ·have := dg10_iff.1 (dL_dig _ c hc)
  omega
theorem ptL_lt {l : List Nat} {k : Nat} (hl : ∀ c ∈ l, c < 256) : ∀ c ∈ ptL l k, c < 256 := by
 intro c hc
 unfold ptL at hc
 split at hc
 ·exact hl c hc
 ·rw [List.mem_append, List.mem_cons] at hc
  rcases hc with hc | rfl | hc
  ·exact mem_rep hl c (List.mem_of_mem_take hc)
  ·omega
  ·exact mem_rep hl c (List.mem_of_mem_drop hc)
theorem scL_len {l : List Nat} {e : Int} (he : e.natAbs < 10 ^ 6) : (scL l e).length ≤ l.length + 10 := by
 unfold scL
 rw [List.length_append, List.length_append]
 have h1 := mnL_len l
 have h2 : (sgL e).length = 2 := by unfold sgL; split <;> rfl
 have h3 := dL_le he (by omega)
 omega
theorem PlQ.bd {r : Nat} {L : List Nat} (hr : r < 9218868437227405312) (h : PlQ r L) : (∀ c ∈ L, c < 256) ∧ L.length ≤ 1000 := by
 rcases h with ⟨_, rfl⟩ | ⟨h0, D, N, hq, rfl⟩
 ·exact ⟨by simp, by simp⟩
 ·obtain ⟨b1, b2, b3, b4, b5⟩ := hq.bd h0 hr
  unfold plL
  split
  ·exact ⟨scL_lt b5, Nat.le_trans (scL_len (by omega)) (by omega)⟩
  ·split
   ·refine ⟨?_, by rw [List.length_append, List.length_replicate]; omega⟩
    intro c hc
    rw [List.mem_append, List.mem_replicate] at hc
    rcases hc with hc | ⟨_, rfl⟩
    ·exact b5 c hc
    ·omega
   ·refine ⟨ptL_lt b5, ?_⟩
    by_cases hz : ((D.length : Int) - N).toNat = 0
    ·unfold ptL; rw [if_pos hz]; omega
    ·rw [ptL_len _ _ hz]; omega
theorem tshortest_is {x : Nat} {D : List Nat} {N : Int} {w : World} (h0 : 0 < x) (hx : x < 9218868437227405312) (ht : Tab10 w) (hz : TzTab w) (h : SQ x D N) :
  Ct 40 #[.float .f64 x] (.tuple #[.string (strOf D), .int .i64 N]) w := by
 refine (tshortest_any x w h0 hx ht hz).mono ?_
 rintro e w' ⟨L, p, rfl, hq, hb⟩
 obtain ⟨rfl, rfl⟩ := h.one hq
 exact ⟨rfl, hb⟩
theorem tplain_any {r : Nat} {L : List Nat} {w : World} (hr : r < 9218868437227405312) (ht : Tab10 w) (hz : TzTab w) (h : PlQ r L) :
  Ct 44 #[.float .f64 r] (.string (strOf L)) w := by
 rcases h with ⟨rfl, rfl⟩ | ⟨h0, D, N, hq, rfl⟩
 ·refine (tplain_zero 0 w (by rw [ord_eq_pos (by omega) (by omega)]; rfl)).mono ?_
  rintro e w' ⟨rfl, rfl⟩
  exact ⟨rfl, Below.refl _ _⟩
 ·obtain ⟨b1, b2, b3, b4, b5⟩ := hq.bd h0 hr
  have t0 : (FloatKind.f64.format.order r 0 == some .eq) = false := by rw [ord_eq_pos (by omega) (by omega)]; exact decide_eq_false (by omega)
  have C : Hid (∀ W, W = w → Ct 40 #[.float .f64 r] (.tuple #[.string (strOf D), .int .i64 N]) W) := Lib.hid (fun W hW => by
   subst hW
   exact tshortest_is h0 hr ht hz hq)
  have CS := Lib.hid (fun W (hW : Below w.heap.size w W) => tscientific_any D (N - 1) W b5 b3 (by omega) (by omega) (by omega) (ht.on hW))
  unfold plL
  by_cases h1 : N ≤ -6
  ·rw [if_pos (.inl h1)]
   exact tplain_low r N _ _ w t0 (by omega) (by omega) h1 CS C
  ·by_cases h2 : 21 < N
   ·rw [if_pos (.inr h2)]
    exact tplain_high r N _ _ w t0 (by omega) (by omega) h2 CS C
   ·rw [if_neg (by omega)]
    by_cases h3 : (D.length : Int) ≤ N
    ·rw [if_pos h3]
     exact tplain_whole r N D.length (N - D.length).toNat _ _ w t0 (by omega) (by omega) (by omega) (by omega) (strOf_size D) h3 (by omega) (strOf (List.replicate (N - D.length).toNat 48)) (Lib.hid (by rw [strOf_size, List.length_replicate]; omega)) (strOf_append _ _) (Lib.hid fun W => trepeat_any _ W (by omega)) C
    ·rw [if_neg h3]
     exact tplain_point r N D.length ((D.length : Int) - N).toNat _ _ w t0 (by omega) (by omega) (by omega) (by omega) (strOf_size D) (by omega) (by omega) (by omega) (Lib.hid fun W => tpointed_any D _ W b5 (by omega) (by omega)) C
def wdS (L : List Nat) : ByteArray := ⟨(bL L).toArray⟩
theorem twide_any (L : List Nat) (w : World) (hL : ∀ c ∈ L, c < 256) (hl : L.length ≤ 100000) : Ct 41 #[.string (strOf L)] (.string (wdS L)) w := by
 have h := wide_any (strOf L) w (by rw [strOf_size]; omega)
 rw [show wdL (strOf L) = bl (strOf L) from bl_data _, bl_strOf hL] at h
 exact h
theorem vwide_any (L : List Nat) (w : World) (hL : ∀ c ∈ L, c < 256) (hl : L.length ≤ 100000) : Ct 38 #[.string (strOf L)] (.string (wdS L)) w := by
 have h := rwide_any (strOf L) w (by rw [strOf_size]; omega)
 rw [show wdL (strOf L) = bl (strOf L) from bl_data _, bl_strOf hL] at h
 exact h
def ngB (x : Nat) : Bool := fneg x && decide (0 < rung x)
theorem ord_neg (x : Nat) : (FloatKind.f64.format.order x 0 == some .lt) = (!fnan x && ngB x) := by
 unfold ngB fnan
 rcases Nat.lt_or_ge 9218868437227405312 (rung x) with h | h
 ·rw [show FloatKind.f64.format.order x 0 = Ieee.double.order x 0 from rfl, order_nan (.inl h), decide_eq_true h]
  rfl
 ·obtain ⟨a1, a2⟩ := frank_pos (x := 0) (by omega)
  rw [show FloatKind.f64.format.order x 0 = Ieee.double.order x 0 from rfl, order_eq h (by omega), a1, decide_eq_false (by omega), Bool.eq_iff_iff, beq_iff_eq, Option.some.injEq, Int.compare_eq_lt]
  unfold frank
  cases fneg x
  ·simp
  ·simp
def sgx (x : Nat) : List Nat := if ngB x = true then [45] else []
def SgQ (T : Nat → List Nat → Prop) (x : Nat) (L : List Nat) : Prop :=
 (fnan x = true ∧ L = [78, 97, 78]) ∨ (fnan x = false ∧ finf x = true ∧ L = sgx x ++ infL) ∨ (fnan x = false ∧ finf x = false ∧ ∃ l, T (rung x) l ∧ L = sgx x ++ l)
theorem fin_rung {x : Nat} (h1 : fnan x = false) (h2 : finf x = false) : rung x < 9218868437227405312 := by
 have := of_decide_eq_false h1
 have := of_decide_eq_false h2
 omega
set_option maxHeartbeats 1000000 in
theorem tsigned_any {T : Nat → List Nat → Prop} {x : Nat} {L : List Nat} {w : World} (f : FuncId) (hx : x < 18446744073709551616)
  (he : ∀ args (W : World), (callFunc f args).run Tryz.prog W = .ok (.enter f args) W)
  (hT : ∀ r l, r < 9218868437227405312 → T r l → (∀ c ∈ l, c < 256) ∧ l.length ≤ 99000 ∧ Ct f #[.float .f64 r] (.string (strOf l)) w)
  (h : SgQ T x L) : Ct 43 #[.float .f64 x, .func (Fn.func f) #[] #[]] (.string (wdS L)) w := by
 have t0 := ord_neg x
 have CN := fun W => isNaN_any x W
 have CI := fun W => isInf0_any x W hx
 rcases h with ⟨h1, rfl⟩ | ⟨h1, h2, rfl⟩ | ⟨h1, h2, l, h3, rfl⟩
 ·rw [h1] at t0 CN
  exact tsigned_00nan x f _ w t0 (Lib.hid CN) (Lib.hid fun W => twide_any [78, 97, 78] W (by simp) (by simp))
 ·rw [h1] at t0 CN
  rw [h2] at CI
  unfold sgx
  cases hn : ngB x
  ·rw [hn] at t0
   exact tsigned_00inf x f _ w t0 (Lib.hid CN) (Lib.hid CI) (Lib.hid fun W => twide_any _ W (by decide) (by decide))
  ·rw [hn] at t0
   exact tsigned_01inf x f _ w t0 (Lib.hid CN) (Lib.hid CI) (Lib.hid fun W => twide_any _ W (by decide) (by decide))
 ·rw [h1] at t0 CN
  rw [h2] at CI
  obtain ⟨l1, l2, hc⟩ := hT _ l (fin_rung h1 h2) h3
  have CA := fun W => abs_any x W hx
  have CT : Hid (∀ W, W = w → Ct f #[.float .f64 (rung x)] (.string (strOf l)) W) := Lib.hid (fun W hW => by
   subst hW
   exact hc)
  unfold sgx
  cases hn : ngB x
  ·rw [hn] at t0
   refine tsigned_00fin x f (strOf l) (strOf l) (rung x) _ w t0 (Lib.hid CN) (Lib.hid CI) (Lib.hid CA) he CT (Lib.hid (by rw [strOf_size]; omega)) ?_ (Lib.hid fun W => twide_any _ W l1 (by omega))
   rw [show (⟨#[]⟩ : ByteArray) = strOf [] from rfl, strOf_append]
   rfl
  ·rw [hn] at t0
   refine tsigned_01fin x f (strOf l) (strOf ([45] ++ l)) (rung x) _ w t0 (Lib.hid CN) (Lib.hid CI) (Lib.hid CA) he CT (Lib.hid (by rw [strOf_size]; omega)) ?_ (Lib.hid fun W => twide_any _ W ?_ ?_)
   ·rw [show (⟨#[45]⟩ : ByteArray) = strOf [45] from rfl, strOf_append]
   ·intro c hc
    rw [List.mem_append, List.mem_singleton] at hc
    rcases hc with rfl | hc
    ·omega
    ·exact l1 c hc
   ·rw [List.length_append, List.length_singleton]
    omega
def TxQ (x : Nat) (L : List Nat) : Prop := SgQ PlQ x L
theorem tText_any {x : Nat} {L : List Nat} {w : World} (hx : x < 18446744073709551616) (ht : Tab10 w) (hz : TzTab w) (h : TxQ x L) :
  Ct 14 #[.float .f64 x] (.string (wdS L)) w := by
 have C := Lib.hid (fun W (hW : W = w) => tsigned_any (T := PlQ) (w := W) 44 hx (fun args W' => by go_simp) (fun r l hr hl => by
  subst hW
  obtain ⟨b1, b2⟩ := hl.bd hr
  exact ⟨b1, by omega, tplain_any hr ht hz hl⟩) h)
 clear h ht hz
 go_enter Tryz.func14, Tryz.ntmps14
 go_wp2_with fail
 refine (C.out _ rfl).mono ?_
 rintro e w1 ⟨rfl, b1⟩
 go_wp2
 go_ret
 exact ⟨rfl, b1⟩

end Go.Proofs.YtfcpkdafkmohkaaGreatDoor
namespace Go.Proofs.YtfcpkdafkmohkaaGreatDoor
open Go.RowKit
theorem sgW_f (r : Nat) : sgW false r = r := rfl
end Go.Proofs.YtfcpkdafkmohkaaGreatDoor
namespace Go.Proofs.YtfcpkdafkmohkaaGreatDoor
open Go.RowKit
theorem big_tenth : ∃ X : Nat, 0 < X ∧ big = 72057594037927936 * X ∧ fmag 4591870180066957722 = 7205759403792794 * X ∧ fmag 4591870180066957721 = 7205759403792793 * X ∧ fmag 4591870180066957723 = 7205759403792795 * X := by
 obtain ⟨K, hK, hb⟩ := big_K
 obtain ⟨J, hJ⟩ : ∃ J : Nat, J = 1018 := ⟨_, rfl⟩
 have h1 := fmag_make 7205759403792794 J (by omega) (by omega)
 have h2 := fmag_make 7205759403792793 J (by omega) (by omega)
 have h3 := fmag_make 7205759403792795 J (by omega) (by omega)
 rw [show J * 4503599627370496 + 7205759403792794 = 4591870180066957722 by omega] at h1
 rw [show J * 4503599627370496 + 7205759403792793 = 4591870180066957721 by omega] at h2
 rw [show J * 4503599627370496 + 7205759403792795 = 4591870180066957723 by omega] at h3
 refine ⟨2 ^ J, two_pos J, ?_, h1, h2, h3⟩
 rw [hb, show K = 56 + J by omega, Nat.pow_add]
theorem decR_tenth : decR 1 (-1) = 4591870180066957722 := by
 obtain ⟨X, hX, hb, h1, h2, h3⟩ := big_tenth
 rw [decR_big]
 unfold vV
 rw [show (-(-(-1 : Int))).toNat = 0 by omega, show (-(-1 : Int)).toNat = 1 by omega, Nat.pow_zero, Nat.pow_one, Nat.mul_one, Nat.one_mul, rnd_iff (by omega) (by omega) (by omega), h1, show 4591870180066957722 - 1 = 4591870180066957721 by omega, h2, show 4591870180066957722 + 1 = 4591870180066957723 by omega, h3, hb]
 exact ⟨.inl (by omega), .inl (by omega)⟩
theorem sq_tenth : SQ 4591870180066957722 [49] 0 := by
 obtain ⟨X, hX, hb, h1, _, _⟩ := big_tenth
 have e1 : dL 1 = [49] := dL_small (by omega)
 have hU : vU 4591870180066957722 (((1 : Nat) : Int) - 0) = 72057594037927940 * X := by
  unfold vU
  rw [h1, show (((1 : Nat) : Int) - 0).toNat = 1 by omega, Nat.pow_one]
  omega
 have hV : vV (((1 : Nat) : Int) - 0) = 72057594037927936 * X := by
  unfold vV
  rw [hb, show (-(((1 : Nat) : Int) - 0)).toNat = 0 by omega, Nat.pow_zero, Nat.mul_one]
 have hq : cq 4591870180066957722 0 1 = 1 := by
  unfold cq
  rw [hU, hV, Nat.mul_div_mul_right _ _ hX]
 have hm : vU 4591870180066957722 (((1 : Nat) : Int) - 0) % vV (((1 : Nat) : Int) - 0) = 4 * X := by
  rw [hU, hV, Nat.mul_mod_mul_right]
 have hl : clow 4591870180066957722 0 1 = true := by
  unfold clow
  rw [hq]
  exact decide_eq_true decR_tenth
 have hn : cnear 4591870180066957722 0 1 = true := by
  unfold cnear
  rw [hm, hV, decide_eq_true (by omega), Bool.true_or]
 refine ⟨0, 1, 1, ⟨?_, ?_⟩, by omega, by omega, by omega, ?_, by rw [e1]; rfl, by rw [e1]; rfl⟩
 ·unfold le10
  rw [h1, hb, show ((0 : Int) - 1).toNat = 0 by omega, show (-((0 : Int) - 1)).toNat = 1 by omega, Nat.pow_zero, Nat.pow_one]
  omega
 ·unfold le10
  rw [h1, hb, show (0 : Int).toNat = 0 by omega, show (-(0 : Int)).toNat = 0 by omega, Nat.pow_zero]
  omega
 ·unfold cnd
  rw [hl, hn, hq]
  simp
theorem tx_tenth : TxQ 4591870180066957722 [48, 46, 49] := by
 refine .inr (.inr ⟨by decide, by decide, [48, 46, 49], .inr ⟨by decide, [49], 0, ?_, by decide⟩, by decide⟩)
 have : rung 4591870180066957722 = 4591870180066957722 := by decide
 rw [this]
 exact sq_tenth
theorem us_wdS {L : List Nat} (hL : ∀ c ∈ L, c < 256) : us (wdS L) = L := by
 unfold us wdS
 show uL (bL L) = L
 exact uL_bL _ (fun c hc => by have := hL c hc; omega)
theorem num_tenth : numW (nrw 0 (us (trimS (wdS [48, 46, 49])))) = 4591870180066957722 := by
 have h : nrw 0 (us (trimS (wdS [48, 46, 49]))) = [48, 46, 49] := by decide +kernel
 rw [h]
 unfold numW
 rw [if_neg (by decide), if_neg (by decide), if_neg (by decide), if_pos (by decide)]
 have h1 : sgnB [48, 46, 49] = false := by decide
 rw [h1, sgW_f]
 have h2 : unsg [48, 46, 49] = [48, 46, 49] := by decide
 rw [h2]
 unfold dV
 rw [show num 10 (dW [48, 46, 49] ++ dF [48, 46, 49]) = 1 by decide, show dX [48, 46, 49] - ((dF [48, 46, 49]).length : Int) = -1 by decide]
 exact decR_tenth
theorem awake_any (w : World) (ht : Tab10 w) (hz : TzTab w) : Ct 16 #[] (.bool true) w := by
 have C1 := Lib.hid (fun W (hW : W = w) => tText_any (x := 4591870180066957722) (L := [48, 46, 49]) (w := W) (by omega) (hW ▸ ht) (hW ▸ hz) tx_tenth)
 have C2 := Lib.hid (fun W => vwide_any [48, 46, 49] W (by simp) (by simp))
 have C3 := Lib.hid (fun W => tNumber_any (wdS [48, 46, 49]) W (by decide +kernel))
 rw [num_tenth] at C3
 have t1 : (FloatKind.f64.format.order 4591870180066957722 4591870180066957722 == some .eq) = true := by rw [ord_eq_pos (by omega) (by omega)]; exact decide_eq_true rfl
 obtain ⟨S, hS⟩ : ∃ S, wdS [48, 46, 49] = S := ⟨_, rfl⟩
 rw [hS] at C1 C2 C3
 rw [show strOf [48, 46, 49] = ⟨#[48, 46, 49]⟩ from rfl] at C2
 clear ht hz hS
 go_enter Tryz.func16, Tryz.ntmps16
 go_wp2_with fail
 refine (C1.out _ rfl).mono ?_
 rintro e w1 ⟨rfl, b1⟩
 have B1 := Lib.hid b1
 clear b1
 go_wp2_with fail
 refine (C2.out _).mono ?_
 rintro e w2 ⟨rfl, b2⟩
 have B2 := Lib.hid (below_le B1.out b2)
 clear b2
 go_wp2_with fail
 refine (C2.out _).mono ?_
 rintro e w3 ⟨rfl, b3⟩
 have B3 := Lib.hid (below_le B2.out b3)
 clear b3
 go_wp2_with fail
 refine (C3.out _).mono ?_
 rintro e w4 ⟨rfl, b4⟩
 have B4 := Lib.hid (below_le B3.out b4)
 clear b4
 go_wp2
 go_ret
 exact ⟨rfl, B4.out⟩
end Go.Proofs.YtfcpkdafkmohkaaGreatDoor
namespace Go.Proofs.YtfcpkdafkmohkaaGreatDoor
theorem run_app {W r : List Nat} (hW : ∀ c ∈ W, dg10 c = true) (hr : ∀ c, r.head? = some c → dg10 c = false) : run10 (W ++ r) = W ∧ aft10 (W ++ r) = r := by
 induction W with
 | nil =>
  cases r with
  | nil => exact ⟨rfl, rfl⟩
  | cons c r =>
   have h := hr c rfl
   unfold run10 aft10
   rw [List.nil_append, List.takeWhile_cons_of_neg (by simp [h]), List.dropWhile_cons_of_neg (by simp [h])]
   exact ⟨rfl, rfl⟩
 | cons c W ih =>
  obtain ⟨i1, i2⟩ := ih (fun x hx => hW x (by simp [hx]))
  have h := hW c (by simp)
  unfold run10 aft10 at *
  rw [List.cons_append, List.takeWhile_cons_of_pos h, List.dropWhile_cons_of_pos h, i1, i2]
  exact ⟨rfl, rfl⟩
def ExpIs (E : List Nat) (X : Int) : Prop := (E = [] ∧ X = 0) ∨ ∃ sg K, E = 101 :: sg :: K ∧ (sg = 43 ∨ sg = 45) ∧ K ≠ [] ∧ (∀ c ∈ K, dg10 c = true) ∧ X = if sg = 45 then -(amt K : Int) else (amt K : Int)
theorem ExpIs.head {E : List Nat} {X : Int} (h : ExpIs E X) : ∀ c, E.head? = some c → dg10 c = false ∧ c ≠ 46 := by
 rcases h with ⟨rfl, _⟩ | ⟨sg, K, rfl, _⟩
 ·intro c hc
  cases hc
 ·intro c hc
  have : c = 101 := by simpa using hc.symm
  subst this
  exact ⟨by decide, by omega⟩
theorem ExpIs.read {E : List Nat} {X : Int} (h : ExpIs E X) : exV E = X ∧ exR E = [] := by
 rcases h with ⟨rfl, rfl⟩ | ⟨sg, K, rfl, hs, hK, hd, rfl⟩
 ·exact ⟨by decide, by decide⟩
 ·have hu : unsg (sg :: K) = K := by
   unfold unsg
   rcases hs with rfl | rfl <;> simp
  obtain ⟨r1, r2⟩ := run_app (W := K) (r := []) hd (by simp)
  rw [List.append_nil] at r1 r2
  have hb : expB (101 :: sg :: K) = true := by
   unfold expB
   rw [List.tail_cons, hu, r1]
   cases K with
   | nil => exact absurd rfl hK
   | cons a b => simp
  constructor
  ·unfold exV expV
   rw [hb, if_pos rfl, List.tail_cons, hu, r1]
   unfold sgnB
   rcases hs with rfl | rfl <;> simp
  ·unfold exR expR
   rw [hb, if_pos rfl, List.tail_cons, hu, r2]
def PointIs (P F : List Nat) : Prop := (P = [] ∧ F = []) ∨ (P = 46 :: F)
theorem dec_parts {W P F E : List Nat} {X : Int} (hW0 : W ≠ []) (hW : ∀ c ∈ W, dg10 c = true) (hF : ∀ c ∈ F, dg10 c = true) (hP : PointIs P F) (hE : ExpIs E X) :
  dB (W ++ (P ++ E)) = true ∧ dW (W ++ (P ++ E)) = W ∧ dF (W ++ (P ++ E)) = F ∧ dX (W ++ (P ++ E)) = X ∧ dR (W ++ (P ++ E)) = [] := by
 have hh := hE.head
 have he := hE.read
 have hr : ∀ c, (P ++ E).head? = some c → dg10 c = false := by
  rcases hP with ⟨rfl, rfl⟩ | rfl
  ·intro c hc
   exact (hh c hc).1
  ·intro c hc
   have : c = 46 := by simpa using hc.symm
   subst this
   decide
 obtain ⟨r1, r2⟩ := run_app hW hr
 have hw : dW (W ++ (P ++ E)) = W := r1
 have key : dF (W ++ (P ++ E)) = F ∧ dT (W ++ (P ++ E)) = E := by
  unfold dF dT
  rw [r2]
  rcases hP with ⟨rfl, rfl⟩ | rfl
  ·have hd : dotB ([] ++ E) = false := by
    unfold dotB
    cases hE' : E with
    | nil => rfl
    | cons a b =>
     have := (hh a (by rw [hE']; rfl)).2
     simp [this]
   rw [hd]
   exact ⟨rfl, rfl⟩
  ·have hd : dotB ((46 :: F) ++ E) = true := rfl
   rw [hd, if_pos rfl, if_pos rfl, List.cons_append, List.tail_cons]
   exact run_app hF (fun c hc => (hh c hc).1)
 refine ⟨?_, hw, key.1, ?_, ?_⟩
 ·unfold dB
  rw [hw]
  cases W with
  | nil => exact absurd rfl hW0
  | cons a b => rfl
 ·unfold dX
  rw [key.2]
  exact he.1
 ·unfold dR
  rw [key.2]
  exact he.2
theorem first_digit {W r : List Nat} (hW0 : W ≠ []) (hW : ∀ c ∈ W, dg10 c = true) : ∃ a t, W ++ r = a :: t ∧ 48 ≤ a ∧ a ≤ 57 := by
 cases W with
 | nil => exact absurd rfl hW0
 | cons a b => exact ⟨a, b ++ r, rfl, dg10_iff.1 (hW a (by simp))⟩
theorem unsg_digit {l : List Nat} {a : Nat} {t : List Nat} (h : l = a :: t) (h1 : 48 ≤ a) : unsg l = l ∧ sgnB l = false := by
 subst h
 unfold unsg sgnB
 have e1 : a ≠ 45 := by omega
 have e2 : a ≠ 43 := by omega
 simp [e1, e2]
theorem unsg_neg (l : List Nat) : unsg (45 :: l) = l ∧ sgnB (45 :: l) = true := by
 unfold unsg sgnB
 simp
theorem no_x {W P F E : List Nat} {X : Int} (hW : ∀ c ∈ W, dg10 c = true) (hF : ∀ c ∈ F, dg10 c = true) (hP : PointIs P F) (hE : ExpIs E X) : ∀ c ∈ W ++ (P ++ E), c ≠ 120 ∧ c ≠ 88 ∧ c ≤ 127 ∧ 43 ≤ c := by
 intro c hc
 have key : dg10 c = true ∨ c = 46 ∨ c = 101 ∨ c = 43 ∨ c = 45 := by
  rw [List.mem_append, List.mem_append] at hc
  rcases hc with hc | hc | hc
  ·exact .inl (hW c hc)
  ·rcases hP with ⟨rfl, rfl⟩ | rfl
   ·cases hc
   ·rcases List.mem_cons.1 hc with h | h
    ·exact .inr (.inl h)
    ·exact .inl (hF c h)
  ·rcases hE with ⟨rfl, _⟩ | ⟨sg, K, rfl, hs, _, hd, _⟩
   ·cases hc
   ·rcases List.mem_cons.1 hc with h | h
    ·exact .inr (.inr (.inl h))
    ·rcases List.mem_cons.1 h with h | h
     ·rcases hs with hs | hs
      ·exact .inr (.inr (.inr (.inl (h.trans hs))))
      ·exact .inr (.inr (.inr (.inr (h.trans hs))))
     ·exact .inl (hd c h)
 rcases key with h | h | h | h | h
 ·have := dg10_iff.1 h
  omega
 all_goals omega
theorem no_hex {l : List Nat} (h : ∀ c ∈ l, c ≠ 120 ∧ c ≠ 88) : hxB l = false := by
 have ha : hxA l = false := by
  unfold hxA
  cases l with
  | nil => rfl
  | cons a t =>
   cases t with
   | nil => simp
   | cons b t =>
    obtain ⟨h1, h2⟩ := h b (by simp)
    simp [h1, h2]
 unfold hxB
 rw [ha]
 rfl
theorem num_dec {W P F E : List Nat} {X : Int} (hW0 : W ≠ []) (hW : ∀ c ∈ W, dg10 c = true) (hF : ∀ c ∈ F, dg10 c = true) (hP : PointIs P F) (hE : ExpIs E X) :
  numW (W ++ (P ++ E)) = decR (num 10 (W ++ F)) (X - F.length) ∧ numW (45 :: (W ++ (P ++ E))) = sgW true (decR (num 10 (W ++ F)) (X - F.length)) := by
 obtain ⟨d1, d2, d3, d4, d5⟩ := dec_parts hW0 hW hF hP hE
 obtain ⟨a, t, e, a1, a2⟩ := first_digit (r := P ++ E) hW0 hW
 obtain ⟨u1, u2⟩ := unsg_digit e a1
 obtain ⟨v1, v2⟩ := unsg_neg (W ++ (P ++ E))
 have hx := no_x hW hF hP hE
 have hi : W ++ (P ++ E) ≠ infL := by
  rw [e]
  intro h
  have : a = 73 := by
   have := congrArg List.head? h
   simpa [infL] using this
  omega
 have hv : dV (W ++ (P ++ E)) = decR (num 10 (W ++ F)) (X - F.length) := by
  unfold dV
  rw [d2, d3, d4]
 constructor
 ·unfold numW
  rw [if_neg (by rw [e]; simp), no_hex (fun c hc => ⟨(hx c hc).1, (hx c hc).2.1⟩), if_neg (by simp), u1, u2, if_neg hi, if_pos ⟨d1, d5⟩, sgW_f, hv]
 ·unfold numW
  rw [if_neg (by simp), no_hex (fun c hc => by
   rcases List.mem_cons.1 hc with h | h
   ·exact ⟨by omega, by omega⟩
   ·exact ⟨(hx c h).1, (hx c h).2.1⟩), if_neg (by simp), v1, v2, if_neg hi, if_pos ⟨d1, d5⟩, hv]
theorem nrw_same {z : Nat} {L : List Nat} (h : ∀ c ∈ L, c ≤ 127) : nrw z L = L := by
 unfold nrw
 rw [List.map_congr_left (g := id) (fun c hc => by simp; have := h c hc; omega), List.map_id]
theorem trim_same {s : ByteArray} (h : ∀ c ∈ us s, blB ((c : Nat) : Int) = false) : us (trimS s) = us s := by
 have hu : ∀ i, i < ln s → blU s i = false := by
  intro i hi
  unfold blU
  have hl : i < (us s).length := by rw [us_length]; exact hi
  rw [← us_getElem s i hl]
  exact h _ (List.getElem_mem hl)
 have hF : frS s = 0 := by
  unfold frS
  refine tF_end s _ _ ?_
  rintro ⟨h1, h2⟩
  rw [hu 0 h1] at h2
  cases h2
 have hT : toS s = ln s := by
  unfold toS
  rw [hF]
  rcases Nat.eq_zero_or_pos (ln s) with h0 | h0
  ·rw [h0]; rfl
  ·obtain ⟨f, hf⟩ : ∃ f, ln s = f + 1 := ⟨ln s - 1, by omega⟩
   rw [hf]
   unfold tT
   rw [if_neg]
   rintro ⟨h1, h2⟩
   rw [hu (f + 1 - 1) (by omega)] at h2
   cases h2
 unfold trimS
 rw [hF, hT, us_slS s 0 (ln s) (Nat.le_refl _), List.drop_zero, Nat.sub_zero, us_take_all]
theorem ahead_same {L : List Nat} (h : ∀ c, L.head? = some c → blkN c = false) : ahL L = L := by
 unfold ahL
 cases L with
 | nil => rfl
 | cons a t =>
  rw [List.dropWhile_cons_of_neg (by simp [h a rfl])]
theorem blk_not {c : Nat} (h1 : 43 ≤ c) (h2 : c ≤ 127) : blkN c = false := by
 have key : ∀ d : Fin 128, 43 ≤ d.val → blkN d.val = false := by decide
 exact key ⟨c, by omega⟩ h1
theorem numW_wide {L : List Nat} (h : ∀ c ∈ L, 43 ≤ c ∧ c ≤ 127) : nrw 0 (us (trimS (wdS L))) = L ∧ nrw 0 (us (wdS L)) = L ∧ nrw 0 (ahL (us (wdS L))) = L := by
 have h1 : us (wdS L) = L := us_wdS (fun c hc => by have := h c hc; omega)
 have h2 : nrw 0 L = L := nrw_same (fun c hc => (h c hc).2)
 refine ⟨?_, by rw [h1, h2], ?_⟩
 ·rw [trim_same (fun c hc => by
   rw [h1] at hc
   exact blk_not (h c hc).1 (h c hc).2), h1, h2]
 ·rw [h1, ahead_same (fun c hc => by
   cases L with
   | nil => cases hc
   | cons a t =>
    have : a = c := by simpa using hc
    subst this
    exact blk_not (h a (by simp)).1 (h a (by simp)).2), h2]

end Go.Proofs.YtfcpkdafkmohkaaGreatDoor
namespace Go.Proofs.YtfcpkdafkmohkaaGreatDoor
open Go.RowKit
theorem one_byte (w : World) (d : Nat) (hd : d < 10) : (convert 85 9 (.slice (some ⟨w.heap.size, 0, none⟩) 1 1)).run Tryz.prog (w.alloc (.cells #[.int .u8 (48 + (d : Int))] 5)) = .ok (.string (strOf [48 + d])) (w.alloc (.cells #[.int .u8 (48 + (d : Int))] 5)) := by
 have h := run_convert_bytes_back (P := Tryz.prog) (w.alloc (.cells #[.int .u8 (48 + (d : Int))] 5)) 85 9 5 ⟨w.heap.size, 0, none⟩ 1 [UInt8.ofNat (48 + d)] Tryz.underlying85 Tryz.underlying5 Tryz.underlying9 (fun j hj => by
  have hj0 : j = 0 := by simpa using hj
  subst hj0
  rw [Lib.add_plain, World.cell?_alloc_new]
  show (#[Value.int .u8 (48 + (d : Int))] : Array Value)[0]? = _
  simp
  omega)
 have e : (⟨([UInt8.ofNat (48 + d)] : List UInt8).toArray⟩ : ByteArray) = strOf [48 + d] := str_eq (by rw [List.map_cons, List.map_nil, u8_toNat (by omega)])
 rw [e] at h
 exact h
set_option maxRecDepth 100000 in
set_option maxHeartbeats 1000000 in
theorem ldigits_any (n : Nat) (w : World) (hn : n < 4294967296) : Ct 39 #[.int .u32 n] (.string (strOf (dL n))) w := by
 go_enter Tryz.func39, Tryz.ntmps39
 go_wp2
 go_loopw [0, 3] (fun v s wr => ∃ (m : Nat) (T : ByteArray), v = .int .u32 m ∧ s = .string T ∧ m ≤ n ∧ Hid (∃ X, T = strOf X ∧ X.length ≤ 10 ∧ (m = n ∨ m * 10 ^ X.length ≤ n) ∧ dL n = dL m ++ X) ∧ Hid (Below w.heap.size w wr)) (fun v _ _ => (intOf v).toNat)
 case atStart => exact ⟨n, strOf [], rfl, rfl, Nat.le_refl _, Lib.hid ⟨[], rfl, by simp, .inl rfl, by simp⟩, Lib.hid (Below.refl _ _)⟩
 case round =>
  obtain ⟨m, T, rfl, rfl, hm, HX, B⟩ := hrel
  by_cases h9 : 9 < m
  ·obtain ⟨d, hd⟩ : ∃ d, m % 10 = d := ⟨_, rfl⟩
   obtain ⟨q, hq⟩ : ∃ q, m / 10 = q := ⟨_, rfl⟩
   have hd9 : d < 10 := by omega
   have H2 : Hid (∃ X, strOf [48 + d] ++ T = strOf X ∧ X.length ≤ 10 ∧ (q = n ∨ q * 10 ^ X.length ≤ n) ∧ dL n = dL q ++ X) := Lib.hid (by
    obtain ⟨X, rfl, h1, h2, h3⟩ := HX.out
    have hb : q * 10 ^ (X.length + 1) ≤ n := by
     rcases h2 with rfl | h2
     ·have : X = [] := by
       have h5 := congrArg List.length h3
       rw [List.length_append] at h5
       exact List.eq_nil_of_length_eq_zero (by omega)
      subst this
      simp
      omega
     ·rw [Nat.pow_succ, Nat.mul_comm (10 ^ X.length), ← Nat.mul_assoc]
      exact Nat.le_trans (Nat.mul_le_mul_right _ (by omega)) h2
    refine ⟨(48 + d) :: X, by rw [strOf_append]; rfl, ?_, .inr hb, ?_⟩
    ·have h6 : 10 ^ (X.length + 1) ≤ n := Nat.le_trans (Nat.le_mul_of_pos_left _ (by omega)) hb
     have h7 : 10 ^ (X.length + 1) < 10 ^ 10 := by omega
     have := ten_lt h7
     simp
     omega
    ·rw [h3, dL_big (n := m) (by omega), hq, hd, List.append_assoc, List.singleton_append])
   have g1 : ¬ 9223372036854775807 < (strOf [48 + d]).size + T.size := by
    obtain ⟨X, hX, h1, _⟩ := HX.out
    rw [hX, strOf_size, strOf_size]
    simp
    omega
   have hcv := one_byte wr d hd9
   have t1 : (9 : Int) < (m : Int) := by omega
   have k0 : (m : Int) % 10 = (d : Int) := by omega
   have k1 : (m : Int) / 10 = (q : Int) := by omega
   have b1 : (d : Int) ≤ 9 := by omega
   have b2 : (0 : Int) ≤ (d : Int) := by omega
   have b3 : (q : Int) ≤ 4294967295 := by omega
   have hql : q < m := by omega
   have hqn : q ≤ n := by omega
   obtain ⟨T2, hT2⟩ : ∃ T2, strOf [48 + d] ++ T = T2 := ⟨_, rfl⟩
   rw [hT2] at H2
   have B2 := Lib.hid (alloc_below (.cells #[.int .u8 (48 + (d : Int))] 5) B.out)
   clear hd hq hd9 h9 hm
   go_wp2
   go_roundw
   case rel => exact ⟨q, T2, rfl, rfl, hqn, H2, B2⟩
   case measure => simp [intOf]; omega
  ·have t1 : decide ((9 : Int) < (m : Int)) = false := decide_eq_false (by omega)
   have hcv := one_byte wr m (by omega)
   have b1 : (m : Int) ≤ 9 := by omega
   have H2 : strOf [48 + m] ++ T = strOf (dL n) := by
    obtain ⟨X, rfl, h1, h2, h3⟩ := HX.out
    rw [strOf_append, h3, dL_small (n := m) (by omega)]
   have g1 : ¬ 9223372036854775807 < (strOf [48 + m]).size + T.size := by
    obtain ⟨X, hX, h1, _⟩ := HX.out
    rw [hX, strOf_size, strOf_size]
    simp
    omega
   have B2 := Lib.hid (alloc_below (.cells #[.int .u8 (48 + (m : Int))] 5) B.out)
   clear h9 hm
   go_wp2
   go_ret
   exact ⟨rfl, B2.out⟩

end Go.Proofs.YtfcpkdafkmohkaaGreatDoor
namespace Go.Proofs.YtfcpkdafkmohkaaGreatDoor
open Go.RowKit
set_option maxRecDepth 100000 in
set_option maxHeartbeats 2000000 in
theorem orders_walk (a b c d x y z v v1 v2 : Nat) (A A1 B D : ByteArray) (S1 S2 S3 S4 T1 T2 T3 T4 : ByteArray) (w : World)
  (hd : d = c % 10) 
  (CA : Hid (∀ W, Ct 39 #[.int .u32 a] (.string A) W))
  (CB : Hid (∀ W, Ct 39 #[.int .u32 b] (.string B) W))
  (CD : Hid (∀ W, Ct 39 #[.int .u32 d] (.string D) W))
  (sA : Hid (A.size ≤ 100)) (sB : Hid (A1.size + B.size ≤ 1000)) (sD : Hid (S1.size + D.size ≤ 1000)) (sE : Hid (S2.size ≤ 1000))
  (h0 : A ++ ⟨#[46]⟩ = A1) (h1 : A1 ++ B = S1) (h2 : S1 ++ D = S2) (h3 : S2 ++ ⟨#[57]⟩ = S3) (h4 : A ++ ⟨#[46, 57, 57, 57, 57, 57, 57, 57, 57, 57, 57, 57, 57, 57, 57, 57, 57, 57, 57, 57, 57, 57, 57, 57, 57, 57]⟩ = S4)
  (W1 : Hid (∀ W, Ct 38 #[.string S1] (.string T1) W))
  (W2 : Hid (∀ W, Ct 38 #[.string S2] (.string T2) W))
  (W3 : Hid (∀ W, Ct 38 #[.string S3] (.string T3) W))
  (W4 : Hid (∀ W, Ct 38 #[.string S4] (.string T4) W))
  (N1 : Hid (∀ W, Ct 28 #[.string T1] (.float .f64 x) W))
  (N2 : Hid (∀ W, Ct 28 #[.string T2] (.float .f64 y) W))
  (N3 : Hid (∀ W, Ct 28 #[.string T3] (.float .f64 z) W))
  (N4 : Hid (∀ W, Ct 28 #[.string T4] (.float .f64 v) W))
  (o1 : FloatKind.f64.format.order x y = some .lt ∨ FloatKind.f64.format.order x y = some .eq) (o2 : FloatKind.f64.format.order y z = some .lt ∨ FloatKind.f64.format.order y z = some .eq)
  (s1 : ∀ W : World, (binOp .add 22 (.float .f64 v) (.float .f64 4607182418800017408)).run Tryz.prog W = .ok (.float .f64 v1) W) (o3 : FloatKind.f64.format.order z v1 = some .lt ∨ FloatKind.f64.format.order z v1 = some .eq)
  (o4 : FloatKind.f64.format.order x (floatOfInt FloatKind.f64 (a : Int)) = some .gt ∨ FloatKind.f64.format.order x (floatOfInt FloatKind.f64 (a : Int)) = some .eq)
  (s2 : ∀ W : World, (binOp .add 22 (.float .f64 (floatOfInt FloatKind.f64 (a : Int))) (.float .f64 4607182418800017408)).run Tryz.prog W = .ok (.float .f64 v2) W) (o5 : FloatKind.f64.format.order v v2 = some .lt ∨ FloatKind.f64.format.order v v2 = some .eq)
  (C6 : Hid (∀ W, Below w.heap.size w W → Ct 16 #[] (.bool true) W)) :
  Ct 11 #[.int .u32 a, .int .u32 b, .int .u8 c] (.bool true) w := by
 have k0 : (c : Int) % 10 = (d : Int) := by omega
 have k1 : (d : Int) ≤ 9 := by omega
 have k2 : (0 : Int) ≤ (d : Int) := by omega
 clear hd
 have g1 : ¬ 9223372036854775807 < A.size + 1 := by have := sA.out; omega
 have g2 : ¬ 9223372036854775807 < A1.size + B.size := by have := sB.out; omega
 have g3 : ¬ 9223372036854775807 < S1.size + D.size := by have := sD.out; omega
 have g4 : ¬ 9223372036854775807 < S2.size + 1 := by have := sE.out; omega
 have g5 : ¬ 9223372036854775807 < A.size + 26 := by have := sA.out; omega
 go_enter Tryz.func11, Tryz.ntmps11
 have B0 := Lib.hid (Below.refl w.heap.size w)
 go_wp2_with fail
 refine (CA.out _).mono ?_
 rintro e w1 ⟨rfl, b1⟩
 have B1 := Lib.hid (below_le B0.out b1)
 clear b1
 go_wp2_with fail
 refine (CB.out _).mono ?_
 rintro e w2 ⟨rfl, b2⟩
 have B2 := Lib.hid (below_le B1.out b2)
 clear b2
 go_wp2_with fail
 refine (CD.out _).mono ?_
 rintro e w3 ⟨rfl, b3⟩
 have B3 := Lib.hid (below_le B2.out b3)
 clear b3
 go_wp2_with fail
 refine (W1.out _).mono ?_
 rintro e w4 ⟨rfl, b4⟩
 have B4 := Lib.hid (below_le B3.out b4)
 clear b4
 go_wp2_with fail
 refine (N1.out _).mono ?_
 rintro e w5 ⟨rfl, b5⟩
 have B5 := Lib.hid (below_le B4.out b5)
 clear b5
 go_wp2_with fail
 refine (W2.out _).mono ?_
 rintro e w6 ⟨rfl, b6⟩
 have B6 := Lib.hid (below_le B5.out b6)
 clear b6
 go_wp2_with fail
 refine (N2.out _).mono ?_
 rintro e w7 ⟨rfl, b7⟩
 have B7 := Lib.hid (below_le B6.out b7)
 clear b7
 go_wp2_with fail
 refine (W3.out _).mono ?_
 rintro e w8 ⟨rfl, b8⟩
 have B8 := Lib.hid (below_le B7.out b8)
 clear b8
 go_wp2_with fail
 refine (N3.out _).mono ?_
 rintro e w9 ⟨rfl, b9⟩
 have B9 := Lib.hid (below_le B8.out b9)
 clear b9
 go_wp2_with fail
 refine (CA.out _).mono ?_
 rintro e w10 ⟨rfl, b10⟩
 have B10 := Lib.hid (below_le B9.out b10)
 clear b10
 go_wp2_with fail
 refine (W4.out _).mono ?_
 rintro e w11 ⟨rfl, b11⟩
 have B11 := Lib.hid (below_le B10.out b11)
 clear b11
 go_wp2_with fail
 refine (N4.out _).mono ?_
 rintro e w12 ⟨rfl, b12⟩
 have B12 := Lib.hid (below_le B11.out b12)
 clear b12
 go_wp2_with fail
 refine (C6.out _ B12.out).mono ?_
 rintro e w13 ⟨rfl, b13⟩
 have B13 := Lib.hid (below_le B12.out b13)
 clear b13
 have p1 : (FloatKind.f64.format.order x y == some .lt || FloatKind.f64.format.order x y == some .eq) = true := by rcases o1 with h | h <;> simp [h]
 have p2 : (FloatKind.f64.format.order y z == some .lt || FloatKind.f64.format.order y z == some .eq) = true := by rcases o2 with h | h <;> simp [h]
 have p3 : (FloatKind.f64.format.order z v1 == some .lt || FloatKind.f64.format.order z v1 == some .eq) = true := by rcases o3 with h | h <;> simp [h]
 have p4 : (FloatKind.f64.format.order x (floatOfInt FloatKind.f64 (a : Int)) == some .gt || FloatKind.f64.format.order x (floatOfInt FloatKind.f64 (a : Int)) == some .eq) = true := by rcases o4 with h | h <;> simp [h]
 have p5 : (FloatKind.f64.format.order v v2 == some .lt || FloatKind.f64.format.order v v2 == some .eq) = true := by rcases o5 with h | h <;> simp [h]
 go_wp2
 go_ret
 exact ⟨rfl, B13.out⟩
theorem ord_le {x y : Nat} (hx : x ≤ 9218868437227405312) (hy : y ≤ 9218868437227405312) (h : x ≤ y) : FloatKind.f64.format.order x y = some .lt ∨ FloatKind.f64.format.order x y = some .eq := by
 rcases Nat.lt_or_ge x y with h1 | h1
 ·left
  have := ord_lt_pos hx hy
  rw [decide_eq_true h1, beq_iff_eq] at this
  exact this
 ·right
  have := ord_eq_pos hx hy
  rw [decide_eq_true (by omega), beq_iff_eq] at this
  exact this
theorem ord_ge {x y : Nat} (hx : x ≤ 9218868437227405312) (hy : y ≤ 9218868437227405312) (h : y ≤ x) : FloatKind.f64.format.order x y = some .gt ∨ FloatKind.f64.format.order x y = some .eq := by
 rcases Nat.lt_or_ge y x with h1 | h1
 ·left
  have := ord_gt_pos hx hy
  rw [decide_eq_true h1, beq_iff_eq] at this
  exact this
 ·right
  have := ord_eq_pos hx hy
  rw [decide_eq_true (by omega), beq_iff_eq] at this
  exact this
theorem decR_neg (N k : Nat) : decR N (-(k : Int)) = rnd (N * big) (10 ^ k) := by
 rw [decR_big]
 unfold vV
 rw [show (-(-(-(k : Int)))).toNat = 0 by omega, show (-(-(k : Int))).toNat = k by omega, Nat.pow_zero, Nat.mul_one]
theorem decR_mono {N M j k : Nat} (h : N * 10 ^ j ≤ M * 10 ^ k) : decR N (-(k : Int)) ≤ decR M (-(j : Int)) := by
 rw [decR_neg, decR_neg]
 refine rnd_mono (ten_pos k) (ten_pos j) ?_
 rw [Nat.mul_right_comm, Nat.mul_right_comm M]
 exact Nat.mul_le_mul_right _ h
theorem decR_more (N d k : Nat) : decR N (-(k : Int)) ≤ decR (N * 10 + d) (-((k + 1 : Nat) : Int)) := by
 refine decR_mono ?_
 rw [Nat.pow_succ, Nat.add_mul (N * 10), Nat.mul_comm (10 ^ k) 10, ← Nat.mul_assoc]
 exact Nat.le_add_right _ _
theorem decR_le_inf (N : Nat) (e : Int) : decR N e ≤ 9218868437227405312 := Nat.min_le_right _ _
theorem decR_whole {N : Nat} (h : N < 9007199254740992) : decR N (-((0 : Nat) : Int)) = fl N := by
 obtain ⟨K, hK, hb⟩ := big_K
 obtain ⟨f1, f2⟩ := fmag_fl h hK
 rw [decR_neg, Nat.pow_zero, hb, ← f1, ← Nat.mul_one (fmag (fl N))]
 exact rnd_own (by omega) f2
theorem nines {N : Nat} (h0 : 0 < N) (h : N ≤ 4294967296) : decR (N * 10 ^ 25 - 1) (-((25 : Nat) : Int)) = fl N := by
 obtain ⟨K, hK, hb⟩ := big_K
 obtain ⟨f1, f2⟩ := fmag_fl (N := N) (by omega) hK
 rw [← hb] at f1
 have hp : 0 < fl N := by
  rcases Nat.eq_zero_or_pos (fl N) with h2 | h2
  ·rw [h2, fmag_zero] at f1
   have := Nat.mul_pos h0 big_pos
   omega
  ·exact h2
 obtain ⟨g1, g2⟩ := gaps hp
 have hup : fmag (fl N) < fmag (fl N + 1) := fmag_step (by omega)
 have hdn : fmag (fl N - 1) < fmag (fl N) := fmag_step (by omega)
 have hbp := big_pos
 have hNb : big ≤ N * big := Nat.le_mul_of_pos_left _ h0
 rw [decR_neg, rnd_iff (ten_pos 25) hp f2, f1]
 rw [f1] at g1 hup hdn
 have e10 : (10 : Nat) ^ 25 = 10000000000000000000000000 := rfl
 rw [e10, Nat.sub_mul, Nat.one_mul, Nat.mul_right_comm]
 generalize fmag (fl N - 1) = A at *
 generalize fmag (fl N + 1) = B at *
 generalize N * big = C at *
 generalize big = D at *
 exact ⟨.inl (by omega), .inl (by omega)⟩
theorem add_one {a : Nat} (h : a ≤ 4294967296) (W : World) : (binOp .add 22 (.float .f64 (fl a)) (.float .f64 4607182418800017408)).run Tryz.prog W = .ok (.float .f64 (fl (a + 1))) W := by
 have h1 := fl_add (a := a) (b := 1) (by omega) (by omega) (by omega)
 have e : fl 1 = 4607182418800017408 := by rw [fl_low (N := 1) (L := 0) (by omega) (by omega) (by omega)]
 rw [e] at h1
 exact run_float_arith _ _ _ _ _ _ _ h1
theorem dig_app {F G : List Nat} (hF : ∀ c ∈ F, dg10 c = true) (hG : ∀ c ∈ G, dg10 c = true) : ∀ c ∈ F ++ G, dg10 c = true := by
 intro c hc
 rcases List.mem_append.1 hc with h | h
 ·exact hF c h
 ·exact hG c h
theorem num_point {n : Nat} {F : List Nat} (hF : ∀ c ∈ F, dg10 c = true) : nrw 0 (us (trimS (wdS (dL n ++ 46 :: F)))) = dL n ++ 46 :: F ∧ numW (dL n ++ 46 :: F) = decR (num 10 (dL n ++ F)) (-(F.length : Int)) := by
 have h := num_dec (W := dL n) (P := 46 :: F) (F := F) (E := []) (X := 0) (dL_ne n) (dL_dig n) hF (.inr rfl) (.inl ⟨rfl, rfl⟩)
 have hx := no_x (W := dL n) (P := 46 :: F) (F := F) (E := []) (X := 0) (dL_dig n) hF (.inr rfl) (.inl ⟨rfl, rfl⟩)
 rw [List.append_nil] at h hx
 refine ⟨(numW_wide (fun c hc => ⟨(hx c hc).2.2.2, (hx c hc).2.2.1⟩)).1, ?_⟩
 rw [h.1, Int.zero_sub]
theorem num_nines : num 10 (List.replicate 25 57) = 10 ^ 25 - 1 := by decide +kernel
set_option maxHeartbeats 1000000 in
theorem orders_any (a b c : Nat) (w : World) (ha : a < 4294967296) (hb : b < 4294967296) (ht : Tab10 w) (hz : TzTab w) :
  Ct 11 #[.int .u32 a, .int .u32 b, .int .u8 c] (.bool true) w := by
 obtain ⟨d, hd⟩ : ∃ d, c % 10 = d := ⟨_, rfl⟩
 have hd9 : d < 10 := by omega
 have hdl : dL d = [48 + d] := dL_small hd9
 have dA := dL_dig a
 have dB := dL_dig b
 have dD := dL_dig d
 have d9 : ∀ c ∈ [57], dg10 c = true := by simp [dg10]
 have d99 : ∀ c ∈ List.replicate 25 57, dg10 c = true := fun c hc => by rw [(List.mem_replicate.1 hc).2]; decide
 have lA := dL_le (n := a) (k := 10) (by omega) (by omega)
 have lB := dL_le (n := b) (k := 10) (by omega) (by omega)
 obtain ⟨e1, n1⟩ := num_point (n := a) dB
 obtain ⟨e2, n2⟩ := num_point (n := a) (dig_app dB dD)
 obtain ⟨e3, n3⟩ := num_point (n := a) (dig_app (dig_app dB dD) d9)
 obtain ⟨e4, n4⟩ := num_point (n := a) d99
 -- the digits' numbers
 obtain ⟨k, hk⟩ : ∃ k, (dL b).length = k := ⟨_, rfl⟩
 have hbk : b < 10 ^ k := by rw [← hk]; exact dL_lt b
 have q1 : num 10 (dL a ++ dL b) = a * 10 ^ k + b := by rw [num_append, dL_num, dL_num, hk]
 have q2 : num 10 (dL a ++ (dL b ++ dL d)) = (a * 10 ^ k + b) * 10 + d := by
  rw [← List.append_assoc, num_append, q1, hdl, num_one, dgt_48p hd9, List.length_singleton, Nat.pow_one]
 have q3 : num 10 (dL a ++ (dL b ++ dL d ++ [57])) = ((a * 10 ^ k + b) * 10 + d) * 10 + 9 := by
  rw [← List.append_assoc, num_append, q2, num_one, List.length_singleton, Nat.pow_one]
  have : dgt 57 = 9 := by decide
  omega
 have q4 : num 10 (dL a ++ List.replicate 25 57) = (a + 1) * 10 ^ 25 - 1 := by
  rw [num_append, dL_num, num_nines, List.length_replicate, Nat.add_mul, Nat.one_mul]
  have := ten_pos 25
  omega
 have l2 : (dL b ++ dL d).length = k + 1 := by rw [List.length_append, hk, hdl]; rfl
 have l3 : (dL b ++ dL d ++ [57]).length = k + 2 := by rw [List.length_append, l2]; rfl
 rw [q1, hk] at n1
 rw [q2, l2] at n2
 rw [q3, l3] at n3
 rw [q4, List.length_replicate, nines (by omega) (by omega)] at n4
 have hp := ten_pos k
 have m0 : fl a ≤ decR (a * 10 ^ k + b) (-(k : Int)) := by
  rw [← decR_whole (by omega)]
  exact decR_mono (by rw [Nat.pow_zero, Nat.mul_one]; exact Nat.le_add_right _ _)
 have m1 : decR (a * 10 ^ k + b) (-(k : Int)) ≤ decR ((a * 10 ^ k + b) * 10 + d) (-((k + 1 : Nat) : Int)) := by
  exact decR_more _ _ _
 have m2 : decR ((a * 10 ^ k + b) * 10 + d) (-((k + 1 : Nat) : Int)) ≤ decR (((a * 10 ^ k + b) * 10 + d) * 10 + 9) (-((k + 2 : Nat) : Int)) := by
  exact decR_more _ _ (k + 1)
 have m3 : decR (((a * 10 ^ k + b) * 10 + d) * 10 + 9) (-((k + 2 : Nat) : Int)) ≤ fl (a + 1) := by
  rw [← decR_whole (by omega)]
  refine decR_mono ?_
  rw [Nat.pow_zero, Nat.mul_one, Nat.pow_succ, Nat.pow_succ, Nat.add_mul a, Nat.one_mul, ← Nat.mul_assoc, ← Nat.mul_assoc]
  generalize a * 10 ^ k = A at *
  generalize 10 ^ k = B at *
  omega
 obtain ⟨K, hK⟩ : ∃ K : Nat, K = 1074 := ⟨_, rfl⟩
 have fa := (fmag_fl (N := a) (by omega) hK).2
 have fa1 := (fmag_fl (N := a + 1) (by omega) hK).2
 have fa2 := (fmag_fl (N := a + 1 + 1) (by omega) hK).2
 have m4 : fl (a + 1) ≤ fl (a + 1 + 1) := by
  rw [← decR_whole (by omega), ← decR_whole (N := a + 1 + 1) (by omega)]
  exact decR_mono (by omega)
 have z1 : (wdS (dL a ++ 46 :: dL b)).size ≤ 140737488355328 ∧ (wdS (dL a ++ 46 :: (dL b ++ dL d))).size ≤ 140737488355328 ∧ (wdS (dL a ++ 46 :: (dL b ++ dL d ++ [57]))).size ≤ 140737488355328 ∧ (wdS (dL a ++ 46 :: List.replicate 25 57)).size ≤ 140737488355328 := by
  have hs : ∀ L : List Nat, (wdS L).size = 2 * L.length := fun L => by
   unfold wdS
   show (bL L).toArray.size = _
   rw [List.size_toArray, bL_length]
  rw [hs, hs, hs, hs]
  simp only [List.length_append, List.length_cons, List.length_replicate, hdl, List.length_nil]
  omega
 have N1 := fun W => tNumber_any _ W z1.1
 have N2 := fun W => tNumber_any _ W z1.2.1
 have N3 := fun W => tNumber_any _ W z1.2.2.1
 have N4 := fun W => tNumber_any _ W z1.2.2.2
 rw [e1, n1] at N1
 rw [e2, n2] at N2
 rw [e3, n3] at N3
 rw [e4, n4] at N4
 have hw : ∀ F : List Nat, (∀ c ∈ F, dg10 c = true) → F.length ≤ 30 → (∀ c ∈ dL a ++ 46 :: F, c < 256) ∧ (dL a ++ 46 :: F).length ≤ 100000 := fun F hF hl => by
  refine ⟨fun c hc => ?_, by rw [List.length_append, List.length_cons]; omega⟩
  rcases List.mem_append.1 hc with h | h
  ·have := dg10_iff.1 (dA c h); omega
  ·rcases List.mem_cons.1 h with h | h
   ·omega
   ·have := dg10_iff.1 (hF c h); omega
 have w1 := hw _ dB (by omega)
 have w2 := hw _ (dig_app dB dD) (by omega)
 have w3 := hw _ (dig_app (dig_app dB dD) d9) (by omega)
 have w4 := hw _ d99 (by simp)
 refine orders_walk a b c d _ _ _ _ (fl (a + 1 + 1)) (fl (a + 1)) (strOf (dL a)) (strOf (dL a ++ [46])) (strOf (dL b)) (strOf (dL d)) (strOf (dL a ++ 46 :: dL b)) (strOf (dL a ++ 46 :: (dL b ++ dL d))) (strOf (dL a ++ 46 :: (dL b ++ dL d ++ [57]))) (strOf (dL a ++ 46 :: List.replicate 25 57)) _ _ _ _ w hd.symm
  (Lib.hid fun W => ldigits_any a W ha) (Lib.hid fun W => ldigits_any b W hb) (Lib.hid fun W => ldigits_any d W (by omega)) ?_ ?_ ?_ ?_ ?_ ?_ ?_ ?_ ?_
  (Lib.hid fun W => vwide_any _ W w1.1 w1.2) (Lib.hid fun W => vwide_any _ W w2.1 w2.2) (Lib.hid fun W => vwide_any _ W w3.1 w3.2) (Lib.hid fun W => vwide_any _ W w4.1 w4.2) (Lib.hid N1) (Lib.hid N2) (Lib.hid N3) (Lib.hid N4)
  (ord_le (decR_le_inf _ _) (decR_le_inf _ _) m1) (ord_le (decR_le_inf _ _) (decR_le_inf _ _) m2) (add_one (by omega)) (ord_le (decR_le_inf _ _) (by omega) (Nat.le_trans m3 m4)) (ord_ge (decR_le_inf _ _) (by rw [flo_of]; omega) (by rw [flo_of]; exact m0)) (fun W => by rw [flo_of]; exact add_one (by omega) W) (ord_le (by omega) (by omega) (Nat.le_refl _)) (Lib.hid fun W h => awake_any W (ht.on h) (tz_on hz h))
 ·exact Lib.hid (by rw [strOf_size]; omega)
 ·exact Lib.hid (by rw [strOf_size, strOf_size, List.length_append]; simp; omega)
 ·exact Lib.hid (by rw [strOf_size, strOf_size, List.length_append, hdl]; simp; omega)
 ·exact Lib.hid (by rw [strOf_size, List.length_append, List.length_cons, l2]; omega)
 ·rw [dot_str, strOf_append]
 ·rw [strOf_append, List.append_assoc, List.singleton_append]
 ·rw [strOf_append, List.append_assoc, List.cons_append]
 ·rw [show (⟨#[57]⟩ : ByteArray) = strOf [57] from rfl, strOf_append, List.append_assoc, List.cons_append]
 ·rw [show (⟨#[46, 57, 57, 57, 57, 57, 57, 57, 57, 57, 57, 57, 57, 57, 57, 57, 57, 57, 57, 57, 57, 57, 57, 57, 57, 57]⟩ : ByteArray) = strOf (46 :: List.replicate 25 57) from rfl, strOf_append]

end Go.Proofs.YtfcpkdafkmohkaaGreatDoor
