/-
  Merged texts (Us, Tp, Vb, Wk, Sf, Te, Wa, Wb, Wc, Sb, Se, Tf, Wd, We, Wl, Wm, Wn, Wo, Wp, Wq, Ya, Yb, Yc, Yd, Yg, Ta, Tb, Td).
-/
import Derived.Test.YtfcpkdafkmohkaaGreatDoorPxd
import Derived.Shelf.Strings.SlTrimAscii
import Derived.Shelf.Strings.Builder1
import Derived.Shelf.Strings.Builder2
import Derived.Shelf.Strings.OnBuilder
import Derived.Shelf.Strings.Trim
import Derived.Shelf.Small.Utf8
import Derived.Shelf.Small.Bits
import Derived.Shelf.Small.Strs
import Derived.Shelf.Small.Wraps
import Derived.Shelf.Strings.BuilderF
import Derived.Shelf.Strings.BuilderK
import Derived.Shelf.Strconv.Itoa0
import Derived.Shelf.Strconv.Itoa1
import Derived.Shelf.LaysM
import Derived.Shelf.Strconv.Itoa2
import Derived.Shelf.Strconv.Itoa3
import Derived.Shelf.Strings.Search1
import Derived.Shelf.Strings.Prefix
import Derived.Shelf.Unicode.Latin
import Derived.Shelf.Strings.Runes
import Derived.Shelf.Strings.AsciiSet
import Derived.Shelf.Bits.Mul64
import Derived.Shelf.Strings.Repeat
import Derived.Shelf.Unicode.DecodeSlow
import Derived.Shelf.Unicode.CaseLookup
import Derived.Shelf.Unicode.CaseConvert
import Derived.Shelf.Unicode.CaseTo
import Derived.Shelf.Unicode.CaseLaid
import Derived.Test.YtfcpkdafkmohkaaGreatDoorProg
import GoSem.Core.Utf8
import Derived.WalkKit
import Derived.WalkSpells
import Derived.WalkLawsBesides
import Derived.Deep.QuietTactic
import Derived.BigQuiet
import Derived.Lib.Hide
import Derived.Deep.OwnRows
import Derived.Laws.CopyOwn
import Derived.Deep.AppendLies
import Derived.Lib.BitFns
import Derived.Lib.Strings
import Derived.Laws.BitsAllLaws
import Derived.Lib.LaidTab
import Derived.ProofKit
import Derived.OpenShut
import Derived.SizedLaws
import Derived.Laws.BytesString
import Derived.Laws.Cells
import Derived.Deep.RegionWith
import Derived.BigRegion
import Derived.Test.YtfcpkdafkmohkaaGreatDoorRows
import Derived.Lib.ItoaNum
import Derived.Deep.DeepCutAuto
import Ieee.Arith
import GoSem.Core.Float
import Derived.Laws.FloatArith
import Derived.Laws.Externs
import Derived.Deep.RegionHeld3
import Derived.Laws.Closers25b
import Derived.Lib.SlTrimSet
import Derived.Lib.Case
import Derived.Deep.WholeRow
import Derived.Laws.Tables
import Derived.Laws.EntriesVeiled
import Derived.Lib.AppendIntMem
namespace Go.Proofs.YtfcpkdafkmohkaaGreatDoor
def uL : List UInt8 → List Nat
 | a :: b :: r => (a.toNat * 256 + b.toNat) :: uL r
 | _ => []

def bL (l : List Nat) : List UInt8 := l.flatMap fun u => [UInt8.ofNat (u / 256), UInt8.ofNat u]

theorem uL_length : ∀ l : List UInt8, (uL l).length = l.length / 2
 | [] => rfl
 | [_] => by simp [uL]
 | a :: b :: r => by
  have := uL_length r
  simp only [uL, List.length_cons, this]
  omega

theorem uL_get : ∀ (l : List UInt8) (i : Nat) (h : 2 * i + 1 < l.length), (uL l)[i]? = some (l[2 * i].toNat * 256 + l[2 * i + 1].toNat)
 | [], i, h => by simp at h
 | [_], i, h => by simp at h
 | a :: b :: r, 0, _ => by simp [uL]
 | a :: b :: r, i + 1, h => by
  have := uL_get r i (by simp at h; omega)
  simp only [uL, List.getElem?_cons_succ, this]
  rfl

theorem uL_lt : ∀ (l : List UInt8), ∀ u ∈ uL l, u < 65536
 | [], u, h => by simp [uL] at h
 | [_], u, h => by simp [uL] at h
 | a :: b :: r, u, h => by
  simp only [uL, List.mem_cons] at h
  rcases h with rfl | h
  ·have := a.toNat_lt; have := b.toNat_lt; omega
  ·exact uL_lt r u h

theorem bL_cons (u : Nat) (l : List Nat) : bL (u :: l) = UInt8.ofNat (u / 256) :: UInt8.ofNat u :: bL l := rfl
theorem bL_append (l m : List Nat) : bL (l ++ m) = bL l ++ bL m := by simp [bL]
theorem bL_one (u : Nat) : bL [u] = [UInt8.ofNat (u / 256), UInt8.ofNat u] := rfl
theorem bL_length : ∀ l : List Nat, (bL l).length = 2 * l.length
 | [] => rfl
 | u :: r => by rw [bL_cons]; simp [bL_length r]; omega

def us (s : ByteArray) : List Nat := uL s.data.toList
def ln (s : ByteArray) : Nat := s.size / 2
def un (s : ByteArray) (i : Nat) : Nat := (us s).getD i 0

theorem ln_le (s : ByteArray) : 2 * ln s ≤ s.size := by unfold ln; omega
theorem us_length (s : ByteArray) : (us s).length = ln s := by
 unfold us ln; rw [uL_length, Go.Lib.size_eq]
theorem us_lt (s : ByteArray) : ∀ u ∈ us s, u < 65536 := uL_lt _
theorem un_eq (s : ByteArray) (i : Nat) (h : 2 * i + 1 < s.size) : un s i = (s[2 * i]'(by omega)).toNat * 256 + (s[2 * i + 1]'h).toNat := by
 have := uL_get s.data.toList i (by rw [← Go.Lib.size_eq]; exact h)
 unfold un us
 rw [List.getD_eq_getElem?_getD, this]
 rfl
theorem un_lt (s : ByteArray) (i : Nat) : un s i < 65536 := by
 unfold un
 rw [List.getD_eq_getElem?_getD]
 cases h : (us s)[i]? with
 | none => simp
 | some u => exact us_lt s u (List.mem_of_getElem? h)
theorem us_getElem (s : ByteArray) (i : Nat) (h : i < (us s).length) : (us s)[i] = un s i := by
 unfold un; rw [List.getD_eq_getElem?_getD, List.getElem?_eq_getElem h]; rfl
theorem us_take_succ (s : ByteArray) (i : Nat) (h : i < ln s) : (us s).take (i + 1) = (us s).take i ++ [un s i] := by
 have h' : i < (us s).length := by rw [us_length]; exact h
 rw [List.take_succ_eq_append_getElem h', us_getElem]
theorem us_take_all (s : ByteArray) : (us s).take (ln s) = us s := List.take_of_length_le (by rw [us_length]; exact Nat.le_refl _)
end Go.Proofs.YtfcpkdafkmohkaaGreatDoor
namespace Go.Proofs.YtfcpkdafkmohkaaGreatDoor
open Go.RowKit
abbrev Bld (B : Nat) (l : List UInt8) (w : World) : Prop := Lib.IsBuilderF 97 5 B B (Lib.byteCells l) w
theorem bld_lt {B : Nat} {l : List UInt8} {w : World} (h : Bld B l w) : B < w.heap.size := by
 rcases h with h | h <;> exact Lib.BuilderAtF.lt h
theorem alloc_new (w : World) (o : Obj) : (w.alloc o).heap[w.heap.size]? = some o := by
 show (w.heap.push o)[w.heap.size]? = _
 rw [Array.getElem?_push, if_pos rfl]
theorem ln_int (s : ByteArray) : (s.size : Int) / 2 = (ln s : Int) := by unfold ln; omega
theorem len_any (s : ByteArray) (w : World) (hs : s.size ≤ maxLen) : Cq 128 #[.string s] (.int .i64 (ln s)) w := by
 unfold maxLen at hs
 have hm : (s.size : Int) ≤ 9223372036854775807 := by omega
 go_enter Tryz.func128, Tryz.ntmps128
 go_wp2
 go_ret
 exact ⟨by rw [← ln_int]; rfl, rfl⟩
theorem or_u16 (a b : Nat) (ha : a < 256) (hb : b < 256) : bits BinOp.or IntKind.u16 ((a : Int) * 256) (b : Int) = ((a * 256 + b : Nat) : Int) := by
 have e : ((a : Int) * 256) = ((a * 256 : Nat) : Int) := by omega
 rw [e, u16_or_nat _ _ (by omega) (by omega)]
 have := Nat.two_pow_add_eq_or_of_lt (i := 8) (b := b) (by omega) a
 rw [show a * 256 = 2 ^ 8 * a by omega, ← this]
theorem at_value (s : ByteArray) (i : Nat) (h0 : 2 * i < s.size) (h1 : 2 * i + 1 < s.size) :
  bits BinOp.or IntKind.u16 (IntKind.u16.wrap (IntKind.u16.wrap ((s[2 * i]'h0).toNat : Int) * 256)) (IntKind.u16.wrap ((s[2 * i + 1]'h1).toNat : Int)) = (un s i : Int) := by
 have c0 := (s[2 * i]'h0).toNat_lt
 have c1 := (s[2 * i + 1]'h1).toNat_lt
 rw [IntWalk.u16_in ((s[2 * i]'h0).toNat : Int) (by omega), IntWalk.u16_in (((s[2 * i]'h0).toNat : Int) * 256) (by omega), IntWalk.u16_in _ (by omega)]
 rw [or_u16 _ _ c0 c1, un_eq s i h1]
set_option maxHeartbeats 400000 in
theorem at_any (s : ByteArray) (i : Nat) (w : World) (h : i < ln s) (hs : s.size ≤ maxLen) :
  Cp 140 #[.string s, .int .i64 i] w fun e w' => e = .returned (.int .u16 (un s i)) ∧ ∃ n, w' = w.drewN n := by
 unfold maxLen at hs
 have hl := ln_le s
 have a0 : (0 : Int) ≤ 2 * (i : Int) := by omega
 have a1 : 2 * (i : Int) < (s.size : Int) := by omega
 have a2 : (0 : Int) ≤ 2 * (i : Int) + 1 := by omega
 have a3 : 2 * (i : Int) + 1 < (s.size : Int) := by omega
 have b0 : IntKind.i64.wrap (2 * (i : Int)) = 2 * (i : Int) := IntWalk.i64_in _ (by omega)
 have b1 : IntKind.i64.wrap (2 * (i : Int) + 1) = 2 * (i : Int) + 1 := IntWalk.i64_in _ (by omega)
 have b2 : (2 * (i : Int)).toNat = 2 * i := by omega
 have b3 : (2 * (i : Int) + 1).toNat = 2 * i + 1 := by omega
 have H := Lib.hid (at_value s i (by omega) (by omega))
 clear hl
 go_enter Tryz.func140, Tryz.ntmps140
 go_wp2
 go_quiet (fail)
 go_wp2
 go_ret
 exact ⟨by rw [← H.out]; rfl, _, rfl⟩
theorem cells_two (l : List UInt8) (u : Nat) (hu : u < 65536) :
  Lib.byteCells (l ++ bL [u]) = (Lib.byteCells l ++ [Value.int .u8 ((u : Int) / 256)]) ++ [Value.int .u8 ((u : Int) % 256)] := by
 rw [Lib.byteCells_append, bL_one]
 simp [Lib.byteCells]
 omega
theorem writeUnit_any (B : Nat) (l : List UInt8) (u : Nat) (hu : u < 65536) (w : World) (h : Bld B l w) (hlen : l.length + 2 ≤ 140737488355328) (hBw : B ≤ w.heap.size) :
  Cp 98 #[.pointer (some ⟨B, 0, none⟩), .int .u16 u] w fun e w' => e = .returned (.tuple #[]) ∧ Bld B (l ++ bL [u]) w' ∧ Below B w w' := by
 have h1 : (Lib.byteCells l).length + 1 ≤ 140737488355328 := by rw [Lib.byteCells_length]; omega
 have h2 : ((Lib.byteCells l) ++ [Value.int .u8 ((u : Int) / 256)]).length + 1 ≤ 140737488355328 := by rw [List.length_append, Lib.byteCells_length]; simp; omega
 go_enter Tryz.func98, Tryz.ntmps98
 go_wp2_with fail
 refine (Tryz.Builder_WriteByte_k B B _ _ _ h h1 hBw).mono ?_
 rintro e w1 ⟨rfl, hb1, bl1, _⟩
 have hBw1 := Nat.le_trans hBw bl1.size
 go_wp2_with fail
 refine (Tryz.Builder_WriteByte_k B B _ _ _ (Or.inr hb1) h2 hBw1).mono ?_
 rintro e w2 ⟨rfl, hb2, bl2, _⟩
 go_wp2
 go_end0
 refine ⟨rfl, ?_, bl1.trans bl2⟩
 rw [Bld, cells_two l u hu]
 exact Or.inr hb2
end Go.Proofs.YtfcpkdafkmohkaaGreatDoor
namespace Go.Proofs.YtfcpkdafkmohkaaGreatDoor
open Go.RowKit
abbrev Own (B : Nat) (l : List UInt8) (v : Value) (w : World) : Prop := w.ownsRow B 5 1 v l.length (Lib.byteCells l)
theorem info5 : (Tryz.prog.info? 5).map (fun i => (i.zero, i.size, i.bytes)) = some (some (.int .u8 0), 1, 1) := by kernel_rfl
theorem and_u16 (u : Nat) (hu : u < 65536) : bits BinOp.and IntKind.u16 (u : Int) 255 % 256 = (u : Int) % 256 := by
 have := u16_and_nat u 255 hu (by omega)
 rw [show (255 : Int) = ((255 : Nat) : Int) from rfl, this]
 have h2 := Nat.and_two_pow_sub_one_eq_mod u 8
 rw [show (255 : Nat) = 2 ^ 8 - 1 from rfl, h2]
 omega
theorem Own.nil (B : Nat) (w : World) : Own B [] (.slice none 0 0) w := World.ownsRow_nil _ _ _ _
set_option maxHeartbeats 400000 in
theorem put_any (B : Nat) (l : List UInt8) (v : Value) (u : Nat) (hu : u < 65536) (w : World) (h : Own B l v w) (hlen : l.length + 2 ≤ 140737488355328) (hBw : B ≤ w.heap.size) :
  Cp 92 #[v, .int .u16 u] w fun e w' => ∃ v', e = .returned v' ∧ Own B (l ++ bL [u]) v' w' ∧ Below B w w' := by
 obtain ⟨i0, hi, hz0, hz1, hz2⟩ := info_parts info5
 have hA := and_u16 u hu
 go_enter Tryz.func92, Tryz.ntmps92
 go_wp2_with (at_builtin; refine wpList_append_own _ rfl _ _ 85 rfl B 5 i0 (.int .u8 0) 1 1 Tryz.underlying85 hi hz0 hz1 hz2 rfl (by decide) v l.length (Lib.byteCells l) rfl (h.alloc _) ⟨w.heap.size, 0, none⟩ 2 2 [.int .u8 ((u : Int) / 256), .int .u8 ((u : Int) % 256)] rfl rfl ?c1 ?c2 ?c3 ?c4 ?c5 ?_)
 case c1 => exact cell_two_new _ _ _ _
 case c2 => simp [Value.oneCell']
 case c3 => unfold maxLen; omega
 case c4 => omega
 case c5 => simp; omega
 intro v' w1 hown hg _
 go_wp2
 go_ret
 refine ⟨v', rfl, ?_, ((Below.refl B w).alloc hBw _).grown hg (by simp; omega) (fun k hk => (h.lt k hk).1)⟩
 rw [Own, cells_two l u hu]
 simpa [bL_one] using hown
end Go.Proofs.YtfcpkdafkmohkaaGreatDoor
namespace Go.Proofs.YtfcpkdafkmohkaaGreatDoor
open Go.RowKit
def spB (u : Int) : Bool := u == 9 || u == 11 || u == 12 || u == 32 || u == 160 || u == 5760 || u == 6158 || u == 8239 || u == 8287 || u == 12288 || u == 65279 || (decide (8192 ≤ u) && decide (u ≤ 8202))
def enB (u : Int) : Bool := u == 10 || u == 13 || u == 8232 || u == 8233
def blB (u : Int) : Bool := spB u || enB u
set_option maxHeartbeats 1000000 in
theorem space_any (u : Int) (w : World) : Cq 147 #[.int .u16 u] (.bool (spB u)) w := by
 go_enter Tryz.func147, Tryz.ntmps147
 go_wp2
 all_goals go_ret
 all_goals exact ⟨by simp [spB, *] <;> omega, rfl⟩
set_option maxHeartbeats 1000000 in
theorem ends_any (u : Int) (w : World) : Cq 148 #[.int .u16 u] (.bool (enB u)) w := by
 go_enter Tryz.func148, Tryz.ntmps148
 go_wp2
 all_goals go_ret
 all_goals exact ⟨by simp [enB, *], rfl⟩
set_option maxHeartbeats 1000000 in
theorem blank_any (u : Int) (w : World) : Cq 139 #[.int .u16 u] (.bool (blB u)) w := by
 go_enter Tryz.func139, Tryz.ntmps139
 go_wp2_with (first | (go_at_call 147; refine (space_any _ _).mono ?_; rintro e w' ⟨rfl, rfl⟩) | (go_at_call 148; refine (ends_any _ _).mono ?_; rintro e w' ⟨rfl, rfl⟩))
 all_goals go_ret
 all_goals exact ⟨by simp [blB, *], rfl⟩
end Go.Proofs.YtfcpkdafkmohkaaGreatDoor
namespace Go.Proofs.YtfcpkdafkmohkaaGreatDoor
open Go.RowKit
theorem foldl_push (ns : List UInt8) (s : ByteArray) : (ns.map fun b => (b.toNat : Int)).foldl (fun r n => r.push (UInt8.ofNat n.toNat)) s = ⟨s.data ++ ns.toArray⟩ := by
 induction ns generalizing s with
 | nil => simp
 | cons b r ih =>
  simp only [List.map_cons, List.foldl_cons, ih]
  apply ByteArray.ext
  simp [ByteArray.push]
set_option maxRecDepth 100000 in
theorem own_string {B : Nat} {l : List UInt8} {v : Value} {w : World} (h : Own B l v w) : (convert 85 9 v).run Tryz.prog w = .ok (.string ⟨l.toArray⟩) w := by
 rcases h.2 with ⟨rfl, hn⟩ | ⟨g, cap, cur, rfl, hB, hg, hcap, hmax, hcur, htk⟩
 ·have : l = [] := List.eq_nil_of_length_eq_zero hn
  subst this
  rfl
 ·have hc := h.cells (g := g) rfl
  rw [run_convert_bytes_string w 85 9 5 _ _ _ Tryz.underlying85 Tryz.underlying5 Tryz.underlying9]
  have hl := run_loadCells_list (P := Tryz.prog) w ⟨g, 0, none⟩ (Lib.byteCells l) hc
  rw [Lib.byteCells_length] at hl
  rw [run_bytesToString w ⟨g, 0, none⟩ l.length cap (l.map fun b => (b.toNat : Int)) (by rw [hl]; simp [Lib.byteCells, Function.comp_def])]
  rw [foldl_push]
  simp
end Go.Proofs.YtfcpkdafkmohkaaGreatDoor
namespace Go.Proofs.YtfcpkdafkmohkaaGreatDoor
open Go.RowKit
def wdL (s : ByteArray) : List Nat := s.data.toList.map fun b => b.toNat
theorem wdL_length (s : ByteArray) : (wdL s).length = s.size := by rw [wdL, List.length_map, ← Lib.size_eq]
theorem wdL_succ (s : ByteArray) (k : Nat) (h : k < s.size) : (wdL s).take (k + 1) = (wdL s).take k ++ [(s[k]'h).toNat] := by
 have h' : k < (wdL s).length := by rw [wdL_length]; exact h
 rw [List.take_succ_eq_append_getElem h']
 simp [wdL]; rfl
theorem wdL_all (s : ByteArray) : (wdL s).take s.size = wdL s := List.take_of_length_le (by rw [wdL_length]; exact Nat.le_refl _)
theorem take_len {α : Type} (l : List α) (k : Nat) : (l.take k).length ≤ k := List.length_take_le _ _
set_option maxRecDepth 100000 in
set_option maxHeartbeats 1000000 in
theorem wide_any (s : ByteArray) (w : World) (hs : s.size ≤ 35184372088832) :
  Ct 41 #[.string s] (.string ⟨(bL (wdL s)).toArray⟩) w := by
 have hm : (s.size : Int) ≤ 35184372088832 := by omega
 have HS := Lib.hid hs
 clear hs
 have hg : Cp 97 #[.pointer (some ⟨w.heap.size, 0, none⟩), .int .i64 (2 * (s.size : Int))] (w.alloc (.cells #[.pointer none, .slice none 0 0] 97)) fun e w' => e = .returned (.tuple #[]) ∧ (Lib.BuilderAt 97 5 w.heap.size w.heap.size (.pointer (some ⟨w.heap.size, 0, none⟩)) [] w' ∧ Below w.heap.size (w.alloc (.cells #[.pointer none, .slice none 0 0] 97)) w') :=
  Tryz.Builder_Grow_fresh w.heap.size w.heap.size (2 * s.size) _ (Nat.le_refl _) (alloc_new w _) (by simp) (by have := HS.out; omega)
 go_enter Tryz.func41, Tryz.ntmps41
 go_wp2_with fail
 refine hg.mono ?_
 rintro e w1 ⟨rfl, hb1, bl1⟩
 have hbl : Below w.heap.size w w1 := ((Below.refl w.heap.size w).alloc (Nat.le_refl _) _).trans bl1
 clear hg
 go_wp2
 go_loopw [11] (fun i wr => ∃ k : Nat, i = .int .i64 k ∧ k ≤ s.size ∧ Bld w.heap.size (bL ((wdL s).take k)) wr ∧ Below w.heap.size w wr) (fun i _ => s.size - (intOf i).toNat)
 case atStart => exact ⟨0, rfl, Nat.zero_le _, Lib.IsBuilderF.of (.inr hb1), hbl⟩
 case round =>
  obtain ⟨k, rfl, hk, hI, hbw⟩ := hrel
  have hsz := bld_lt hI
  by_cases hlt : k < s.size
  ·have hl := take_len (wdL s) k
   have hu := (s[k]'hlt).toNat_lt
   have hr := fun W h hb => writeUnit_any w.heap.size (bL ((wdL s).take k)) (s[k]'hlt).toNat (by omega) W h (by rw [bL_length]; have := HS.out; omega) hb
   have HW := Lib.hid (show IntKind.u16.wrap (((s[k]'hlt).toNat : Nat) : Int) = ((s[k]'hlt).toNat : Int) from IntWalk.u16_in _ (by omega))
   have HG := Lib.hid (wdL_succ s k hlt)
   clear hl hu
   go_wp2_with fail
   rw [HW.out]
   refine (hr _ hI (by omega)).mono ?_
   rintro e w2 ⟨rfl, hI2, hb2⟩
   go_wp2
   go_roundw
   case rel => exact ⟨k + 1, by go_num, by omega, by rw [HG.out, bL_append]; exact hI2, hbw.trans hb2⟩
   case measure => simp [intOf]; omega
  ·have hS := Tryz.Builder_String_any_k w.heap.size w.heap.size _ wr hI (by omega)
   have HZ := Lib.hid (show (wdL s).take k = wdL s by rw [show k = s.size by omega]; exact wdL_all s)
   go_wp2_with (go_at_call 99; refine hS.mono ?_; rintro e w2 ⟨rfl, _, hb2, _⟩)
   go_ret
   rw [HZ.out]
   exact ⟨rfl, hbw.trans hb2⟩
set_option maxRecDepth 100000 in
set_option maxHeartbeats 1000000 in
theorem rwide_any (s : ByteArray) (w : World) (hs : s.size ≤ 35184372088832) :
  Ct 38 #[.string s] (.string ⟨(bL (wdL s)).toArray⟩) w := by
 have hm : (s.size : Int) ≤ 35184372088832 := by omega
 have HS := Lib.hid hs
 clear hs
 go_enter Tryz.func38, Tryz.ntmps38
 go_wp2
 go_loopw [3, 4] (fun v i wr => ∃ k : Nat, i = .int .i64 k ∧ k ≤ s.size ∧ Own w.heap.size (bL ((wdL s).take k)) v wr ∧ Below w.heap.size w wr) (fun _ i _ => s.size - (intOf i).toNat)
 case atStart => exact ⟨0, rfl, Nat.zero_le _, Own.nil _ _, Below.refl _ _⟩
 case round =>
  obtain ⟨k, rfl, hk, hI, hbw⟩ := hrel
  by_cases hlt : k < s.size
  ·have hl := take_len (wdL s) k
   have hu := (s[k]'hlt).toNat_lt
   have hr := fun W v h hb => put_any w.heap.size (bL ((wdL s).take k)) v (s[k]'hlt).toNat (by omega) W h (by rw [bL_length]; have := HS.out; omega) hb
   have HW := Lib.hid (show IntKind.u16.wrap (((s[k]'hlt).toNat : Nat) : Int) = ((s[k]'hlt).toNat : Int) from IntWalk.u16_in _ (by omega))
   have HG := Lib.hid (wdL_succ s k hlt)
   clear hl hu
   go_wp2_with fail
   rw [HW.out]
   refine (hr _ _ hI hbw.size).mono ?_
   rintro e w2 ⟨v2, rfl, hI2, hb2⟩
   go_wp2
   go_roundw
   case rel => exact ⟨k + 1, by go_num, by omega, by rw [HG.out, bL_append]; exact hI2, hbw.trans hb2⟩
   case measure => simp [intOf]; omega
  ·have HZ := Lib.hid (show (wdL s).take k = wdL s by rw [show k = s.size by omega]; exact wdL_all s)
   have hcv := own_string hI
   go_wp2
   go_ret
   rw [HZ.out]
   exact ⟨rfl, hbw⟩
end Go.Proofs.YtfcpkdafkmohkaaGreatDoor
namespace Go.Proofs.YtfcpkdafkmohkaaGreatDoor
open Go.RowKit
theorem info_u16 : (Tryz.prog.info? 87).map (fun i => (i.zero, i.size, i.bytes)) = some (some (.int .u16 0), 1, 2) := by kernel_rfl
theorem row_drewN {w : World} {b : Nat} {t : TypeId} {n : Nat} {f : Nat → Value} (h : w.rowIs b t n f) (m : Nat) : (w.drewN m).rowIs b t n f := h
set_option maxRecDepth 100000 in
set_option maxHeartbeats 1000000 in
theorem units_any (s : ByteArray) (w : World) (hs : s.size ≤ 140737488355328) :
  Cp 129 #[.string s] w fun e w' => e = .returned (.slice (some ⟨w.heap.size, 0, none⟩) (ln s) (ln s)) ∧ w'.rowIs w.heap.size 87 (ln s) (fun j => .int .u16 (un s j : Nat)) ∧ Below w.heap.size w w' := by
 have hl := ln_le s
 have hs63 : s.size ≤ maxLen := by unfold maxLen; omega
 have hm : ((ln s : Nat) : Int) ≤ 70368744177664 := by omega
 have hmk := run_make_row' (P := Tryz.prog) 124 87 (.int .u16 0) 2 Tryz.underlying124 info_u16 rfl .i64 .i64 (ln s) (by omega) (by omega) w
 have hmade := World.rowIs_made w (.int .u16 0) (ln s) 87
 have H63 := Lib.hid hs63
 have c1 := fun W => len_any s W H63.out
 clear hs hl hs63
 have hr0 : (w.alloc (.cells (madeCells #[.int .u16 0] (ln s)) 87)).rowIs w.heap.size 87 (ln s) (fun j => .int .u16 ((if j < 0 then un s j else 0 : Nat) : Int)) := hmade.congr (fun j _ => by simp)
 clear hmade
 go_enter Tryz.func129, Tryz.ntmps129
 go_wp2_with (go_at_call 128; refine (c1 _).mono ?_; rintro e w' ⟨rfl, rfl⟩)
 clear hmk
 go_loopw [10] (fun i wr => ∃ k : Nat, i = .int .i64 k ∧ k ≤ ln s ∧ wr.rowIs w.heap.size 87 (ln s) (fun j => .int .u16 ((if j < k then un s j else 0 : Nat) : Int)) ∧ Below w.heap.size w wr) (fun i _ => ln s - (intOf i).toNat)
 case atStart => exact ⟨0, rfl, Nat.zero_le _, hr0, (Below.refl _ _).alloc (Nat.le_refl _) _⟩
 case round =>
  obtain ⟨k, rfl, hk, hI, hbw⟩ := hrel
  by_cases hlt : k < ln s
  ·have hcell : wr.cell? ⟨w.heap.size, k, none⟩ = some (.int .u16 0) := by
    have := hI.cell hlt
    simpa using this
   have hfz := hI.frozen k
   have c2 := fun W => at_any s k W hlt H63.out
   have hI2 := hI.set k (.int .u16 (un s k : Nat))
   have hI3 : (wr.setCell ⟨w.heap.size, k, none⟩ (.int .u16 (un s k : Nat))).rowIs w.heap.size 87 (ln s) (fun j => .int .u16 ((if j < k + 1 then un s j else 0 : Nat) : Int)) := by
    refine hI2.congr fun j hj => ?_
    by_cases h1 : j = k
    ·subst h1; simp
    ·by_cases h2 : j < k
     ·rw [if_neg h1, if_pos h2, if_pos (by omega)]
     ·rw [if_neg h1, if_neg h2, if_neg (by omega)]
   have HI := Lib.hid hI3
   clear hI hI2 hI3
   go_wp2_with fail
   refine (c2 _).mono ?_
   rintro e w' ⟨rfl, n, rfl⟩
   go_wp2
   go_roundw
   case rel => exact ⟨k + 1, by go_num, by omega, row_drewN HI.out n, below_drewN' (hbw.setCell (Nat.le_refl _) _) n⟩
   case measure => simp [intOf]; omega
  ·have HI := Lib.hid (show wr.rowIs w.heap.size 87 (ln s) (fun j => .int .u16 (un s j : Nat)) from hI.congr fun j hj => by rw [if_pos (by omega)])
   clear hI
   go_wp2
   go_ret
   exact ⟨rfl, HI.out, hbw⟩
end Go.Proofs.YtfcpkdafkmohkaaGreatDoor
namespace Go.Proofs.YtfcpkdafkmohkaaGreatDoor
open Go.RowKit
end Go.Proofs.YtfcpkdafkmohkaaGreatDoor
namespace Go.Proofs.YtfcpkdafkmohkaaGreatDoor
open Go.RowKit
def slS (s : ByteArray) (f t : Int) : ByteArray := if max f 0 < min t (ln s) then s.extract (2 * (max f 0).toNat) (2 * (min t (ln s)).toNat) else { data := #[] }
set_option maxHeartbeats 1000000 in
theorem slice_any (s : ByteArray) (f t : Int) (w : World) (hs : s.size ≤ maxLen) :
  Cq 141 #[.string s, .int .i64 f, .int .i64 t] (.string (slS s f t)) w := by
 have hl := ln_le s
 have hm : (s.size : Int) ≤ 9223372036854775807 := by unfold maxLen at hs; omega
 have c1 := fun W => len_any s W hs
 have hsl : slS s f t = if max f 0 < min t (ln s) then s.extract (2 * (max f 0).toNat) (2 * (min t (ln s)).toNat) else { data := #[] } := rfl
 have hm1 : 0 ≤ max f 0 := by omega
 have hn1 : min t (ln s) ≤ ln s := by omega
 have hl2 : 2 * ((ln s : Nat) : Int) ≤ (s.size : Int) := by omega
 obtain ⟨m, hm0⟩ : ∃ m : Int, max f 0 = m := ⟨_, rfl⟩
 obtain ⟨n, hn0⟩ : ∃ n : Int, min t (ln s) = n := ⟨_, rfl⟩
 rw [hm0, hn0] at hsl
 rw [hm0] at hm1
 rw [hn0] at hn1
 by_cases h : m < n
 ·rw [if_pos h] at hsl
  have HS := Lib.hid hsl
  have k1 : 2 * m ≤ 2 * n := by omega
  have k2 : 2 * n ≤ (s.size : Int) := by omega
  have k3 : 0 ≤ 2 * m := by omega
  have k4 : 0 ≤ 2 * n := by omega
  have e1 : (2 * m).toNat = 2 * m.toNat := by omega
  have e2 : (2 * n).toNat = 2 * n.toNat := by omega
  clear hsl hl hs hl2 hn1
  go_enter Tryz.func141, Tryz.ntmps141
  go_wp2_with (go_at_call 128; refine (c1 _).mono ?_; rintro e w' ⟨rfl, rfl⟩)
  go_ret
  exact ⟨by rw [HS.out]; rfl, rfl⟩
 ·rw [if_neg h] at hsl
  have HS := Lib.hid hsl
  clear hsl hl hs hl2 hn1
  go_enter Tryz.func141, Tryz.ntmps141
  go_wp2_with (go_at_call 128; refine (c1 _).mono ?_; rintro e w' ⟨rfl, rfl⟩)
  go_ret
  exact ⟨by rw [HS.out]; rfl, rfl⟩
end Go.Proofs.YtfcpkdafkmohkaaGreatDoor
namespace Go.Proofs.YtfcpkdafkmohkaaGreatDoor
open Go.RowKit
def blU (s : ByteArray) (i : Nat) : Bool := blB ((un s i : Nat) : Int)
def tF (s : ByteArray) : Nat → Nat → Nat
 | 0, i => i
 | f + 1, i => if i < ln s ∧ blU s i = true then tF s f (i + 1) else i
def tT (s : ByteArray) (F : Nat) : Nat → Nat → Nat
 | 0, t => t
 | f + 1, t => if F < t ∧ blU s (t - 1) = true then tT s F f (t - 1) else t
def frS (s : ByteArray) : Nat := tF s (ln s) 0
def toS (s : ByteArray) : Nat := tT s (frS s) (ln s) (ln s)
def trimS (s : ByteArray) : ByteArray := slS s (frS s) (toS s)
theorem tF_go (s : ByteArray) (f i : Nat) (h : i < ln s) (hb : blU s i = true) : tF s (f + 1) i = tF s f (i + 1) := by simp [tF, h, hb]
theorem tF_end (s : ByteArray) (f i : Nat) (h : ¬ (i < ln s ∧ blU s i = true)) : tF s f i = i := by
 cases f with
 | zero => rfl
 | succ f => rw [tF, if_neg h]
theorem tT_go (s : ByteArray) (F f t : Nat) (h : F < t + 1) (hb : blU s t = true) : tT s F (f + 1) (t + 1) = tT s F f t := by simp [tT, h, hb]
theorem tT_end (s : ByteArray) (F f t : Nat) (h : ¬ (F < t ∧ blU s (t - 1) = true)) : tT s F f t = t := by
 cases f with
 | zero => rfl
 | succ f => rw [tT, if_neg h]
theorem blankU_any (s : ByteArray) (i : Nat) (w : World) (b : Bool) (hb : blU s i = b) : Cq 139 #[.int .u16 (un s i : Nat)] (.bool b) w := by
 refine (blank_any _ w).mono ?_
 rintro e w' ⟨rfl, rfl⟩
 exact ⟨by rw [← hb]; rfl, rfl⟩
set_option maxRecDepth 100000 in
set_option maxHeartbeats 2000000 in
theorem trim_any (s : ByteArray) (w : World) (hs : s.size ≤ maxLen) :
  Cp 75 #[.string s] w fun e w' => e = .returned (.string (trimS s)) ∧ ∃ n, w' = w.drewN n := by
 have hl := ln_le s
 have hm : ((ln s : Nat) : Int) ≤ 4611686018427387903 := by unfold maxLen at hs; omega
 have H63 := Lib.hid hs
 have c1 := fun W => len_any s W H63.out
 clear hs hl
 go_enter Tryz.func75, Tryz.ntmps75
 go_wp2_with (go_at_call 128; refine (c1 _).mono ?_; rintro e w' ⟨rfl, rfl⟩)
 go_loopw [3] (fun i wr => ∃ k f : Nat, i = .int .i64 k ∧ k ≤ ln s ∧ tF s f k = frS s ∧ ln s ≤ k + f ∧ ∃ n, wr = w.drewN n) (fun i _ => ln s - (intOf i).toNat)
 case atStart => exact ⟨0, ln s, rfl, Nat.zero_le _, rfl, by omega, 0, rfl⟩
 case round =>
  obtain ⟨k, fuel, rfl, hk, hF, hfu, n, rfl⟩ := hrel
  have HF := Lib.hid hF
  clear hF
  by_cases hc : k < ln s ∧ blU s k = true
  ·obtain ⟨hlt, hb⟩ := hc
   obtain ⟨f, rfl⟩ : ∃ f, fuel = f + 1 := ⟨fuel - 1, by omega⟩
   have HG := Lib.hid (show tF s f (k + 1) = frS s by rw [← HF.out, tF_go s f k hlt hb])
   have c2 := fun W => at_any s k W hlt H63.out
   have c3 := fun W => blankU_any s k W true hb
   have hlt' : (k : Int) < (ln s : Int) := by omega
   clear hb HF
   go_wp2_with (first | (go_at_call 140; refine (c2 _).mono ?_; rintro e w' ⟨rfl, n2, rfl⟩) | (go_at_call 139; refine (c3 _).mono ?_; rintro e w' ⟨rfl, rfl⟩))
   go_roundw
   case rel => exact ⟨k + 1, f, by go_num, by omega, HG.out, by omega, _, rfl⟩
   case measure => simp [intOf]; omega
  ·have HK := Lib.hid (show frS s = k by rw [← HF.out, tF_end s fuel k hc])
   have hor : (¬ ((k : Int) < (ln s : Int))) ∨ ((k : Int) < (ln s : Int) ∧ blU s k = false ∧ k < ln s) := by
    by_cases h : k < ln s
    ·right; refine ⟨by omega, ?_, h⟩
     cases hb : blU s k
     ·rfl
     ·exact absurd ⟨h, hb⟩ hc
    ·left; omega
   have H1 := Lib.hid (fun W (h : k < ln s) => at_any s k W h H63.out)
   have H2 := Lib.hid (fun W (h : blU s k = false) => blankU_any s k W false h)
   clear hc HF
   rcases hor with h1 | ⟨h1, h2, h3⟩
   all_goals
    try have c2 := fun W => H1.out W h3
    try have c3 := fun W => H2.out W h2
    try clear h2
    go_wp2_with (first | (go_at_call 140; refine (c2 _).mono ?_; rintro e w' ⟨rfl, n2, rfl⟩) | (go_at_call 139; refine (c3 _).mono ?_; rintro e w' ⟨rfl, rfl⟩))
    go_loopw [4] (fun i wr => ∃ t f : Nat, i = .int .i64 t ∧ t ≤ ln s ∧ tT s k f t = tT s k (ln s) (ln s) ∧ t ≤ f ∧ ∃ n, wr = w.drewN n) (fun i _ => (intOf i).toNat)
    case atStart => exact ⟨ln s, ln s, rfl, by omega, rfl, by omega, _, rfl⟩
    case round =>
     obtain ⟨t, fu, rfl, ht, hT, hfu2, n3, rfl⟩ := hrel
     have HT := Lib.hid hT
     clear hT
     by_cases hc2 : k < t ∧ blU s (t - 1) = true
     ·obtain ⟨hlt2, hb2⟩ := hc2
      obtain ⟨t, rfl⟩ : ∃ t', t = t' + 1 := ⟨t - 1, by omega⟩
      obtain ⟨f2, rfl⟩ : ∃ f', fu = f' + 1 := ⟨fu - 1, by omega⟩
      have hb3 : blU s t = true := hb2
      have HG2 := Lib.hid (show tT s k f2 t = tT s k (ln s) (ln s) by rw [← HT.out, tT_go s k f2 t hlt2 hb3])
      have c4 := fun W => at_any s t W (by omega) H63.out
      have c5 := fun W => blankU_any s t W true hb3
      have g1 : (k : Int) < (t : Int) + 1 := by omega
      clear hb2 hb3 HT
      go_wp2_with (first | (go_at_call 140; refine (c4 _).mono ?_; rintro e w' ⟨rfl, n4, rfl⟩) | (go_at_call 139; refine (c5 _).mono ?_; rintro e w' ⟨rfl, rfl⟩))
      go_roundw
      case rel => exact ⟨t, f2, rfl, by omega, HG2.out, by omega, _, rfl⟩
      case measure => simp [intOf]
     ·have HK2 := Lib.hid (show toS s = t by unfold toS; rw [HK.out, ← HT.out, tT_end s k fu t hc2])
      have hor2 : (¬ ((k : Int) < (t : Int))) ∨ ((k : Int) < (t : Int) ∧ blU s (t - 1) = false ∧ k < t) := by
       by_cases h : k < t
       ·right; refine ⟨by omega, ?_, h⟩
        cases hb : blU s (t - 1)
        ·rfl
        ·exact absurd ⟨h, hb⟩ hc2
       ·left; omega
      have hsl := fun W => slice_any s k t W H63.out
      have HR := Lib.hid (show trimS s = slS s k t by unfold trimS; rw [HK.out, HK2.out])
      clear hc2 HT
      rcases hor2 with g1 | ⟨g1, g2, g3⟩
      ·go_wp2_with (go_at_call 141; refine (hsl _).mono ?_; rintro e w' ⟨rfl, rfl⟩)
       go_ret
       exact ⟨by rw [HR.out]; rfl, _, rfl⟩
      ·obtain ⟨t, rfl⟩ : ∃ t', t = t' + 1 := ⟨t - 1, by omega⟩
       have c4 := fun W => at_any s t W (by omega) H63.out
       have c5 := fun W => blankU_any s t W false g2
       have g1' : (k : Int) < (t : Int) + 1 := by omega
       clear g2 g1
       go_wp2_with (first | (go_at_call 140; refine (c4 _).mono ?_; rintro e w' ⟨rfl, n4, rfl⟩) | (go_at_call 139; refine (c5 _).mono ?_; rintro e w' ⟨rfl, rfl⟩) | (go_at_call 141; refine (hsl _).mono ?_; rintro e w' ⟨rfl, rfl⟩))
       go_ret
       exact ⟨by rw [HR.out]; rfl, _, rfl⟩
end Go.Proofs.YtfcpkdafkmohkaaGreatDoor
namespace Go.Proofs.YtfcpkdafkmohkaaGreatDoor
open Go.RowKit
theorem bld_below {B : Nat} {l : List UInt8} {w w' : World} (h : Bld B l w) (hb : Below w.heap.size w w') : Bld B l w' := by
 have hg : w.grownBy w' none := ⟨hb.os, hb.tape, hb.output, hb.size, fun k hk _ => hb.block k hk⟩
 have key : ∀ p, Lib.BuilderAtF 97 5 B B p (Lib.byteCells l) w → Lib.BuilderAtF 97 5 B B p (Lib.byteCells l) w' := by
  intro p hA
  have hlt := Lib.BuilderAtF.lt hA
  obtain ⟨hB, v, hbk, hown, hne⟩ := hA
  exact ⟨hB, v, by rw [hb.block B hlt]; exact hbk, hown.kept hg (by cases v.ownBlock <;> simp), hne⟩
 rcases h with h | h
 ·exact .inl (key _ h)
 ·exact .inr (key _ h)
def nr0 (u : Nat) : Nat := if 127 < u then 0 else u
theorem nr0_lt (u : Nat) : nr0 u < 128 := by unfold nr0; split <;> omega
theorem row_others {w w' : World} {R B n : Nat} {f : Nat → Value} (h : w.rowIs R 87 n f) (ho : Lib.OthersKept 5 (some B) w w') (hR : R ≠ B) : w'.rowIs R 87 n f := by
 obtain ⟨c, hb, hn, hc⟩ := h
 refine ⟨c, ho R _ hb (by simpa using hR) (fun c' fz e => ?_), hn, hc⟩
 injection e with _ e2 _
 exact absurd e2 (by decide)
theorem cells_snoc (l : List UInt8) (u : Nat) (hu : u < 256) : Lib.byteCells l ++ [Value.int .u8 (u : Int)] = Lib.byteCells (l ++ [UInt8.ofNat u]) := by
 rw [Lib.byteCells_append]
 simp [Lib.byteCells]
 omega
set_option maxRecDepth 100000 in
set_option maxHeartbeats 1000000 in
theorem tnarrow_any (s : ByteArray) (w : World) (hs : s.size ≤ 140737488355328) :
  Ct 66 #[.string s] (.string (strOf (nrw 0 (us s)))) w := by
 have hl := ln_le s
 have hs63 : s.size ≤ maxLen := by unfold maxLen; omega
 have hm : ((ln s : Nat) : Int) ≤ 70368744177664 := by omega
 have H63 := Lib.hid hs63
 have C1 := Lib.hid (fun W => len_any s W H63.out)
 have C2 := Lib.hid (fun W => units_any s W hs)
 have HS := Lib.hid (show ln s ≤ 70368744177664 by omega)
 have hg : Cp 97 #[.pointer (some ⟨w.heap.size, 0, none⟩), .int .i64 (ln s : Nat)] (w.alloc (.cells #[.pointer none, .slice none 0 0] 97)) fun e w' => e = .returned (.tuple #[]) ∧ (Lib.BuilderAt 97 5 w.heap.size w.heap.size (.pointer (some ⟨w.heap.size, 0, none⟩)) [] w' ∧ Below w.heap.size (w.alloc (.cells #[.pointer none, .slice none 0 0] 97)) w') :=
  Tryz.Builder_Grow_fresh w.heap.size w.heap.size (ln s) _ (Nat.le_refl _) (alloc_new w _) (by simp) (by omega)
 have HG := Lib.hid hg
 clear hl hs hs63 hg
 go_enter Tryz.func66, Tryz.ntmps66
 go_wp2_with fail
 refine (C1.out _).mono ?_
 rintro e w' ⟨rfl, rfl⟩
 go_wp2_with fail
 refine HG.out.mono ?_
 rintro e w1 ⟨rfl, hb1, bl1⟩
 have hbl : Below w.heap.size w w1 := ((Below.refl w.heap.size w).alloc (Nat.le_refl _) _).trans bl1
 have I1 := Lib.hid (show Bld w.heap.size [] w1 from Lib.IsBuilderF.of (.inr hb1))
 have B1 := Lib.hid hbl
 clear hb1 bl1 hbl
 go_wp2_with fail
 refine (C2.out _).mono ?_
 rintro e w2 ⟨rfl, hr2, b2⟩
 have R2 := Lib.hid hr2
 have hlt1 := bld_lt I1.out
 have I2 := Lib.hid (bld_below I1.out b2)
 have B2 := Lib.hid (below_le B1.out b2)
 have HR := Lib.hid (show w1.heap.size ≠ w.heap.size by omega)
 obtain ⟨R, hR⟩ : ∃ R, w1.heap.size = R := ⟨_, rfl⟩
 rw [hR] at R2 HR ⊢
 clear hr2 b2 hlt1 hR
 go_wp2
 go_loopw [12] (fun i wr => ∃ k : Nat, i = .int .i64 k ∧ k ≤ ln s ∧ Hid (Bld w.heap.size ((((us s).take k).map nr0).map UInt8.ofNat) wr) ∧ Hid (wr.rowIs R 87 (ln s) (fun j => .int .u16 (un s j : Nat))) ∧ Hid (Below w.heap.size w wr)) (fun i _ => ln s - (intOf i).toNat)
 case atStart => exact ⟨0, rfl, Nat.zero_le _, I2, R2, B2⟩
 case round =>
  obtain ⟨k, rfl, hk, I3, R3, B3⟩ := hrel
  by_cases hlt : k < ln s
  ·have hcell : wr.cell? ⟨R, k, none⟩ = some (.int .u16 (un s k : Nat)) := R3.out.cell hlt
   have hul := un_lt s k
   have HST := Lib.hid (us_take_succ s k hlt)
   obtain ⟨u, hu⟩ : ∃ u, un s k = u := ⟨_, rfl⟩
   rw [hu] at hcell hul HST
   have hc1 := nr0_lt u
   have hlen : (Lib.byteCells ((((us s).take k).map nr0).map UInt8.ofNat)).length + 1 ≤ 140737488355328 := by
    rw [Lib.byteCells_length, List.length_map, List.length_map, List.length_take]
    have := HS.out
    omega
   have C4 := Lib.hid (fun c : Int => Tryz.Builder_WriteByte_k w.heap.size w.heap.size _ c wr I3.out hlen B3.out.size)
   have KEY := Lib.hid (show ∀ w', Lib.BuilderAtF 97 5 w.heap.size w.heap.size (.pointer (some ⟨w.heap.size, 0, none⟩)) (Lib.byteCells ((((us s).take k).map nr0).map UInt8.ofNat) ++ [.int .u8 (nr0 u : Nat)]) w' → Bld w.heap.size ((((us s).take (k + 1)).map nr0).map UInt8.ofNat) w' from fun w' h => by
    rw [cells_snoc _ _ (by omega)] at h
    rw [HST.out, List.map_append, List.map_append]
    exact Or.inr h)
   have a1 : (0 : Int) ≤ (k : Int) := by omega
   have a2 : (k : Int) < (ln s : Int) := by omega
   clear hlen
   by_cases hb : 127 < u
   ·have e0 : nr0 u = 0 := if_pos hb
    rw [e0] at KEY
    have t1 : decide ((127 : Int) < (u : Int)) = true := decide_eq_true (by omega)
    clear hu hul hc1 hb e0
    go_wp2_with fail
    refine (C4.out 0).mono ?_
    rintro e w3 ⟨rfl, hI, hb3, ho3⟩
    have I4 := Lib.hid (KEY.out _ hI)
    have R4 := Lib.hid (row_others R3.out ho3 HR.out)
    have B4 := Lib.hid (B3.out.trans hb3)
    clear hI hb3 ho3
    go_wp2
    exact ⟨⟨k + 1, by go_num, by omega, I4, R4, B4⟩, by simp [intOf]; omega⟩
   ·have e0 : nr0 u = u := if_neg hb
    rw [e0] at KEY
    have t1 : decide ((127 : Int) < (u : Int)) = false := decide_eq_false (by omega)
    have k1 : IntKind.u8.wrap (u : Int) = (u : Int) := IntWalk.u8_in _ (by omega)
    clear hu hul hc1 hb e0
    go_wp2_with fail
    refine (C4.out _).mono ?_
    rintro e w3 ⟨rfl, hI, hb3, ho3⟩
    have I4 := Lib.hid (KEY.out _ hI)
    have R4 := Lib.hid (row_others R3.out ho3 HR.out)
    have B4 := Lib.hid (B3.out.trans hb3)
    clear hI hb3 ho3
    go_wp2
    exact ⟨⟨k + 1, by go_num, by omega, I4, R4, B4⟩, by simp [intOf]; omega⟩
  ·obtain ⟨T, hT⟩ : ∃ T, (((us s).take k).map nr0).map UInt8.ofNat = T := ⟨_, rfl⟩
   have I5 := I3.out
   rw [hT] at I5
   have hS := Lib.hid (Tryz.Builder_String_any_k w.heap.size w.heap.size T wr I5 B3.out.size)
   have HZ := Lib.hid (show (⟨T.toArray⟩ : ByteArray) = strOf (nrw 0 (us s)) from by
    rw [← hT, show (us s).take k = us s by rw [show k = ln s by omega]; exact us_take_all s]
    rfl)
   clear hT I5 I3
   go_wp2_with (go_at_call 99; refine hS.out.mono ?_; rintro e w2 ⟨rfl, _, hb2, _⟩)
   go_ret
   exact ⟨by rw [← HZ.out]; rfl, B3.out.trans hb2⟩

end Go.Proofs.YtfcpkdafkmohkaaGreatDoor
namespace Go.Proofs.YtfcpkdafkmohkaaGreatDoor
open Go.RowKit
theorem bln_ten1 : bln 10 = 4 := by decide
set_option maxRecDepth 100000 in
set_option maxHeartbeats 1000000 in
theorem ypow_any (n : Nat) (w : World) (hn : n ≤ 3000) : Cp 115 #[.int .i64 n] w (NRet (10 ^ n) w) := by
 have hn1 : (n : Int) ≤ 3000 := by omega
 have N0 := Lib.hid (NV.lit w 1 (by omega) (by omega))
 have B0 := Lib.hid (show Below w.heap.size w (w.alloc (.cells #[.int .u32 1] 42)) from (Below.refl _ _).alloc (Nat.le_refl _) _)
 go_enter Tryz.func115, Tryz.ntmps115
 go_wp2
 go_loopw [3, 4] (fun v i wr => ∃ (k : Nat) (A : Option Addr) (m c : Nat), i = .int .i64 k ∧ k ≤ n ∧ v = .slice A m c ∧ Hid (NV wr A m c (10 ^ k)) ∧ Hid (Below w.heap.size w wr)) (fun _ i _ => n - (intOf i).toNat)
 case atStart => exact ⟨0, _, _, _, rfl, Nat.zero_le _, rfl, N0, B0⟩
 case round =>
  obtain ⟨k, A, m, c, rfl, hk, rfl, HV, HB⟩ := hrel
  by_cases hlt : k < n
  ·have hlt' : (k : Int) < (n : Int) := by omega
   have hb := bln_ten k
   have b1 : Below wr.heap.size wr (wr.alloc (.cells #[.int .u32 10] 42)) := (Below.refl _ _).alloc (Nat.le_refl _) _
   have C1 := Lib.hid (rntimes (HV.out.step b1) (NV.lit wr 10 (by omega) (by omega)) (by omega) (by rw [bln_ten1]; omega))
   have HB1 := Lib.hid (below_le HB.out b1)
   rw [← Nat.pow_succ] at C1
   clear hb b1
   go_wp2_with fail
   refine C1.out.mono ?_
   rintro e w2 ⟨A2, m2, c2, rfl, g2, b2⟩
   have G2 := Lib.hid g2
   have HB2 := Lib.hid (below_le HB1.out b2)
   clear g2 b2
   go_wp2
   exact ⟨⟨k + 1, A2, m2, c2, by go_num, by omega, rfl, G2, HB2⟩, by simp [intOf]; omega⟩
  ·have HZ := Lib.hid (show k = n by omega)
   go_wp2
   go_ret
   exact ⟨A, m, c, rfl, by rw [← HZ.out]; exact HV.out, HB.out⟩
end Go.Proofs.YtfcpkdafkmohkaaGreatDoor
namespace Go.Proofs.YtfcpkdafkmohkaaGreatDoor
open Go.RowKit
theorem repL_one : ∀ c : Nat, (Lib.repeatL [48] c).map UInt8.toNat = List.replicate c 48
 | 0 => rfl
 | c + 1 => by
  rw [List.replicate_succ, ← repL_one c]
  rfl
theorem trepeat_any (c : Nat) (w : World) (hc : c ≤ 140737488355328) : Ct 106 #[.string ⟨#[48]⟩, .int .i64 c] (.string (strOf (List.replicate c 48))) w := by
 have h := Tryz.strings_Repeat ⟨#[48]⟩ c w (by omega) (by show 1 * c ≤ _; omega)
 have e : (⟨(Lib.repeatL (⟨#[48]⟩ : ByteArray).data.toList c).toArray⟩ : ByteArray) = strOf (List.replicate c 48) := str_eq (repL_one c)
 rw [e] at h
 exact h
def ptL (l : List Nat) (last : Nat) : List Nat :=
 if last = 0 then l else (List.replicate (last + 1 - l.length) 48 ++ l).take (last + 1 - l.length + l.length - last) ++ 46 :: (List.replicate (last + 1 - l.length) 48 ++ l).drop (last + 1 - l.length + l.length - last)
theorem tpointed_zero (s : ByteArray) (w : World) : Cq 55 #[.string s, .int .i64 0] (.string s) w := by
 go_enter Tryz.func55, Tryz.ntmps55
 go_wp2
 go_ret
 exact ⟨rfl, rfl⟩
set_option maxRecDepth 100000 in
set_option maxHeartbeats 1000000 in
theorem tpointed_walk (s Z E F : ByteArray) (N M z last at' : Nat) (w : World) (h0 : 0 < last) (hlast : last ≤ 1000) (hN : s.size = N) (hN2 : N ≤ 1000000) (hz : max ((last : Int) + 1 - (N : Int)) 0 = (z : Int)) (hZ : Z.size = z) (hE : Z ++ s = E) (hM : E.size = M) (hzM : z + N = M)
  (hat : M - last = at') (hlM : last < M) (hF : Hid (E.extract 0 at' ++ ⟨#[46]⟩ ++ E.extract at' M = F))
  (CR : Hid (∀ W, Ct 106 #[.string ⟨#[48]⟩, .int .i64 z] (.string Z) W)) :
  Ct 55 #[.string s, .int .i64 last] (.string F) w := by
 have t0 : ((last : Int) == 0) = false := by rw [beq_eq_false_iff_ne]; omega
 have hs1 : ¬ 9223372036854775807 < Z.size + s.size := by omega
 have k1 : (at' : Int) ≤ (M : Int) := by omega
 have k2 : (0 : Int) ≤ (at' : Int) := by omega
 have k3 : (M : Int) - (last : Int) = (at' : Int) := by omega
 have k4 : (M : Int) ≤ 2000000 := by omega
 go_enter Tryz.func55, Tryz.ntmps55
 go_wp2_with fail
 refine (CR.out _).mono ?_
 rintro e w1 ⟨rfl, b1⟩
 have B1 := Lib.hid b1
 clear b1
 go_wp2_with fail
 clear hE hN hN2 hz hZ hs1 hlast
 go_quiet (fail)
 go_wp2
 go_ret
 exact ⟨congrArg (fun z => Ending.returned (.string z)) hF.out, below_drewN' B1.out _⟩
theorem dot_str : (⟨#[46]⟩ : ByteArray) = strOf [46] := rfl
theorem ptL_len (l : List Nat) (last : Nat) (h : last ≠ 0) : (ptL l last).length = max (last + 1) l.length + 1 := by
 unfold ptL
 rw [if_neg h]
 simp
 omega
theorem mem_rep {l : List Nat} {z : Nat} (h : ∀ c ∈ l, c < 256) : ∀ c ∈ List.replicate z 48 ++ l, c < 256 := by
 intro c hc
 rw [List.mem_append, List.mem_replicate] at hc
 rcases hc with ⟨_, rfl⟩ | hc
 ·omega
 ·exact h c hc
theorem tpointed_any (l : List Nat) (last : Nat) (w : World) (hl : ∀ c ∈ l, c < 256) (hn : l.length ≤ 100000) (hlast : last ≤ 1000) :
  Ct 55 #[.string (strOf l), .int .i64 last] (.string (strOf (ptL l last))) w := by
 rcases Nat.eq_zero_or_pos last with h0 | h0
 ·subst h0
  refine (tpointed_zero (strOf l) w).mono ?_
  rintro e w' ⟨rfl, rfl⟩
  exact ⟨rfl, Below.refl _ _⟩
 ·obtain ⟨z, hz⟩ : ∃ z, last + 1 - l.length = z := ⟨_, rfl⟩
  have hE : strOf (List.replicate z 48) ++ strOf l = strOf (List.replicate z 48 ++ l) := strOf_append _ _
  have hb := bl_strOf (mem_rep (z := z) hl)
  have hM : (strOf (List.replicate z 48 ++ l)).size = z + l.length := by rw [strOf_size, List.length_append, List.length_replicate]
  refine tpointed_walk (strOf l) (strOf (List.replicate z 48)) _ _ l.length (z + l.length) z last _ w h0 hlast (strOf_size _) (by omega) (by omega) (by rw [strOf_size, List.length_replicate]) hE hM rfl rfl (by omega) (Lib.hid ?_) (Lib.hid fun W => trepeat_any z W (by omega))
  rw [ext_take, show z + l.length = (strOf (List.replicate z 48 ++ l)).size from hM.symm, ext_drop, hb, dot_str, strOf_append, strOf_append, hM]
  unfold ptL
  rw [if_neg (by omega), hz, List.append_assoc, List.singleton_append]
def mnL (l : List Nat) : List Nat := if l.length ≤ 1 then l else l.take 1 ++ 46 :: l.drop 1
def sgL (e : Int) : List Nat := if e < 0 then [101, 45] else [101, 43]
def scL (l : List Nat) (e : Int) : List Nat := mnL l ++ sgL e ++ dL e.natAbs
theorem titoa_any (k : Nat) (w : World) (hk : k ≤ 9223372036854775807) (ht : Tab10 w) : Ct 126 #[.int .i64 k] (.string (strOf (dL k))) w := by
 refine (Tryz.strconv_Itoa (k : Int) (by omega) (by omega) w ht).mono ?_
 rintro e w' ⟨rfl, a, os, rfl⟩
 refine ⟨?_, Lib.below_grow _ _ (Nat.le_refl _) _ _⟩
 rw [Lib.itoa_nonneg]
 exact congrArg (fun z => Ending.returned (.string z)) (str_eq rfl)
set_option maxRecDepth 100000 in
set_option maxHeartbeats 1000000 in
theorem tscientific_00 (s Y G I F : ByteArray) (N k : Nat) (E : Int) (w : World) (hN : s.size = N) (hk : k ≤ 100000) (hE : E = (k : Int)) (hN1 : N = 1)
  (hY : Hid (s = Y)) (hYs : Hid (Y.size ≤ 1000001)) (hG : Hid (Y ++ ⟨#[101, 43]⟩ = G)) (hGs : Hid (G.size ≤ 1000003)) (hIs : Hid (I.size ≤ 100)) (hF : Hid (G ++ I = F))
  (CI : Hid (∀ W, Below w.heap.size w W → Ct 126 #[.int .i64 k] (.string I) W)) :
  Ct 59 #[.string s, .int .i64 E] (.string F) w := by
 subst hE
 have t0 : ¬ (k : Int) < 0 := by omega
 have t1 : decide ((1 : Int) < (N : Int)) = false := decide_eq_false (by omega)
 have g1 : ¬ 9223372036854775807 < N + 2 := by omega
 have G1 := hG.out
 clear hN1
 have hY' := hY.out
 subst hY'
 go_enter Tryz.func59, Tryz.ntmps59
 have B1 := Lib.hid (Below.refl w.heap.size w)
 have g2 : ¬ 9223372036854775807 < G.size + I.size := by have := hGs.out; have := hIs.out; omega
 have F1 := hF.out
 go_wp2_with fail
 refine (CI.out _ B1.out).mono ?_
 rintro e w2 ⟨rfl, b2⟩
 have B2 := Lib.hid (below_le B1.out b2)
 clear b2
 go_wp2
 go_ret
 exact ⟨rfl, B2.out⟩
set_option maxRecDepth 100000 in
set_option maxHeartbeats 1000000 in
theorem tscientific_01 (s Y G I F : ByteArray) (N k : Nat) (E : Int) (w : World) (hN : s.size = N) (hN2 : N ≤ 1000000) (hk : k ≤ 100000) (hE : E = (k : Int)) (hN1 : 1 < N)
  (hY : Hid (s.extract 0 1 ++ ⟨#[46]⟩ ++ s.extract 1 N = Y)) (hYs : Hid (Y.size ≤ 1000001)) (hG : Hid (Y ++ ⟨#[101, 43]⟩ = G)) (hGs : Hid (G.size ≤ 1000003)) (hIs : Hid (I.size ≤ 100)) (hF : Hid (G ++ I = F))
  (CI : Hid (∀ W, Below w.heap.size w W → Ct 126 #[.int .i64 k] (.string I) W)) :
  Ct 59 #[.string s, .int .i64 E] (.string F) w := by
 subst hE
 have t0 : ¬ (k : Int) < 0 := by omega
 have t1 : (1 : Int) < (N : Int) := by omega
 have k4 : (N : Int) ≤ 1000000 := by omega
 clear hN1 hN2 
 go_enter Tryz.func59, Tryz.ntmps59
 go_wp2
 go_quiet (fail)
 have hY' := hY.out
 rw [hY']
 clear hY'
 rename_i nq
 have B1 := Lib.hid (below_drewN' (Below.refl w.heap.size w) nq)
 have g1 : ¬ 9223372036854775807 < Y.size + 2 := by have := hYs.out; omega
 have g2 : ¬ 9223372036854775807 < G.size + I.size := by have := hGs.out; have := hIs.out; omega
 have G2 := hG.out
 have F1 := hF.out
 go_wp2_with fail
 refine (CI.out _ B1.out).mono ?_
 rintro e w2 ⟨rfl, b2⟩
 have B2 := Lib.hid (below_le B1.out b2)
 clear b2
 go_wp2
 go_ret
 exact ⟨rfl, B2.out⟩
set_option maxRecDepth 100000 in
set_option maxHeartbeats 1000000 in
theorem tscientific_10 (s Y G I F : ByteArray) (N k : Nat) (E : Int) (w : World) (hN : s.size = N) (hk : k ≤ 100000) (hE : -E = (k : Int)) (h0 : 0 < k) (hN1 : N = 1)
  (hY : Hid (s = Y)) (hYs : Hid (Y.size ≤ 1000001)) (hG : Hid (Y ++ ⟨#[101, 45]⟩ = G)) (hGs : Hid (G.size ≤ 1000003)) (hIs : Hid (I.size ≤ 100)) (hF : Hid (G ++ I = F))
  (CI : Hid (∀ W, Below w.heap.size w W → Ct 126 #[.int .i64 k] (.string I) W)) :
  Ct 59 #[.string s, .int .i64 E] (.string F) w := by
 have t0 : E < 0 := by omega
 have t3 : -100000 ≤ E := by omega
 have t1 : decide ((1 : Int) < (N : Int)) = false := decide_eq_false (by omega)
 have g1 : ¬ 9223372036854775807 < N + 2 := by omega
 have G1 := hG.out
 clear hN1 h0
 have hY' := hY.out
 subst hY'
 go_enter Tryz.func59, Tryz.ntmps59
 have B1 := Lib.hid (Below.refl w.heap.size w)
 have g2 : ¬ 9223372036854775807 < G.size + I.size := by have := hGs.out; have := hIs.out; omega
 have F1 := hF.out
 go_wp2_with fail
 refine (CI.out _ B1.out).mono ?_
 rintro e w2 ⟨rfl, b2⟩
 have B2 := Lib.hid (below_le B1.out b2)
 clear b2
 go_wp2
 go_ret
 exact ⟨rfl, B2.out⟩
set_option maxRecDepth 100000 in
set_option maxHeartbeats 1000000 in
theorem tscientific_11 (s Y G I F : ByteArray) (N k : Nat) (E : Int) (w : World) (hN : s.size = N) (hN2 : N ≤ 1000000) (hk : k ≤ 100000) (hE : -E = (k : Int)) (h0 : 0 < k) (hN1 : 1 < N)
  (hY : Hid (s.extract 0 1 ++ ⟨#[46]⟩ ++ s.extract 1 N = Y)) (hYs : Hid (Y.size ≤ 1000001)) (hG : Hid (Y ++ ⟨#[101, 45]⟩ = G)) (hGs : Hid (G.size ≤ 1000003)) (hIs : Hid (I.size ≤ 100)) (hF : Hid (G ++ I = F))
  (CI : Hid (∀ W, Below w.heap.size w W → Ct 126 #[.int .i64 k] (.string I) W)) :
  Ct 59 #[.string s, .int .i64 E] (.string F) w := by
 have t0 : E < 0 := by omega
 have t3 : -100000 ≤ E := by omega
 have t1 : (1 : Int) < (N : Int) := by omega
 have k4 : (N : Int) ≤ 1000000 := by omega
 clear hN1 hN2 h0
 go_enter Tryz.func59, Tryz.ntmps59
 go_wp2
 go_quiet (fail)
 have hY' := hY.out
 rw [hY']
 clear hY'
 rename_i nq
 have B1 := Lib.hid (below_drewN' (Below.refl w.heap.size w) nq)
 have g1 : ¬ 9223372036854775807 < Y.size + 2 := by have := hYs.out; omega
 have g2 : ¬ 9223372036854775807 < G.size + I.size := by have := hGs.out; have := hIs.out; omega
 have G2 := hG.out
 have F1 := hF.out
 go_wp2_with fail
 refine (CI.out _ B1.out).mono ?_
 rintro e w2 ⟨rfl, b2⟩
 have B2 := Lib.hid (below_le B1.out b2)
 clear b2
 go_wp2
 go_ret
 exact ⟨rfl, B2.out⟩
theorem mnL_lt {l : List Nat} (hl : ∀ c ∈ l, c < 256) : ∀ c ∈ mnL l, c < 256 := by
 intro c hc
 unfold mnL at hc
 split at hc
 ·exact hl c hc
 ·rw [List.mem_append, List.mem_cons] at hc
  rcases hc with hc | rfl | hc
  ·exact hl c (List.mem_of_mem_take hc)
  ·omega
  ·exact hl c (List.mem_of_mem_drop hc)
theorem mnL_len (l : List Nat) : (mnL l).length ≤ l.length + 1 := by
 unfold mnL
 split
 ·omega
 ·simp
  omega
theorem dL_le {n k : Nat} (h : n < 10 ^ k) (hk : 0 < k) : (dL n).length ≤ k := by
 rcases Nat.eq_zero_or_pos n with h0 | h0
 ·rw [h0, dL_small (by omega)]
  simp
  omega
 ·have := ten_lt (Nat.lt_of_le_of_lt (dL_ge h0) h)
  omega
theorem tscientific_any (l : List Nat) (E : Int) (w : World) (hl : ∀ c ∈ l, c < 256) (hn0 : 1 ≤ l.length) (hn : l.length ≤ 1000000) (h1 : -100000 ≤ E) (h2 : E ≤ 100000) (ht : Tab10 w) :
  Ct 59 #[.string (strOf l), .int .i64 E] (.string (strOf (scL l E))) w := by
 obtain ⟨k, hk⟩ : ∃ k, E.natAbs = k := ⟨_, rfl⟩
 have hI : (strOf (dL k)).size ≤ 100 := by
  rw [strOf_size]
  exact Nat.le_trans (dL_le (k := 6) (by omega) (by omega)) (by omega)
 have hY : (strOf (mnL l)).size ≤ 1000001 := by rw [strOf_size]; have := mnL_len l; omega
 have hG : (strOf (mnL l ++ sgL E)).size ≤ 1000003 := by
  rw [strOf_size, List.length_append]
  have := mnL_len l
  have : (sgL E).length = 2 := by unfold sgL; split <;> rfl
  omega
 have hF : strOf (mnL l ++ sgL E) ++ strOf (dL k) = strOf (scL l E) := by rw [strOf_append, ← hk]; rfl
 have CI := Lib.hid (fun W (hW : Below w.heap.size w W) => titoa_any k W (by omega) (ht.on hW))
 have hb := bl_strOf hl
 have hsz := strOf_size l
 have hYY : ¬ l.length ≤ 1 → (strOf l).extract 0 1 ++ ⟨#[46]⟩ ++ (strOf l).extract 1 l.length = strOf (mnL l) := by
  intro h
  rw [ext_take, ← hsz, ext_drop, hb, dot_str, strOf_append, strOf_append]
  unfold mnL
  rw [if_neg h, List.append_assoc, List.singleton_append]
 have hY1 : l.length ≤ 1 → strOf l = strOf (mnL l) := by
  intro h
  unfold mnL
  rw [if_pos h]
 by_cases hE : E < 0
 ·have hs : strOf (mnL l) ++ (⟨#[101, 45]⟩ : ByteArray) = strOf (mnL l ++ sgL E) := by
   unfold sgL
   rw [if_pos hE, ← strOf_append]
   rfl
  by_cases hL : l.length ≤ 1
  ·exact tscientific_10 _ _ _ _ _ l.length k E w hsz (by omega) (by omega) (by omega) (by omega) (Lib.hid (hY1 hL)) (Lib.hid hY) (Lib.hid hs) (Lib.hid hG) (Lib.hid hI) (Lib.hid hF) CI
  ·exact tscientific_11 _ _ _ _ _ l.length k E w hsz hn (by omega) (by omega) (by omega) (by omega) (Lib.hid (hYY hL)) (Lib.hid hY) (Lib.hid hs) (Lib.hid hG) (Lib.hid hI) (Lib.hid hF) CI
 ·have hs : strOf (mnL l) ++ (⟨#[101, 43]⟩ : ByteArray) = strOf (mnL l ++ sgL E) := by
   unfold sgL
   rw [if_neg hE, ← strOf_append]
   rfl
  by_cases hL : l.length ≤ 1
  ·exact tscientific_00 _ _ _ _ _ l.length k E w hsz (by omega) (by omega) (by omega) (Lib.hid (hY1 hL)) (Lib.hid hY) (Lib.hid hs) (Lib.hid hG) (Lib.hid hI) (Lib.hid hF) CI
  ·exact tscientific_01 _ _ _ _ _ l.length k E w hsz hn (by omega) (by omega) (by omega) (Lib.hid (hYY hL)) (Lib.hid hY) (Lib.hid hs) (Lib.hid hG) (Lib.hid hI) (Lib.hid hF) CI

end Go.Proofs.YtfcpkdafkmohkaaGreatDoor
namespace Go.Proofs.YtfcpkdafkmohkaaGreatDoor
open Go.RowKit
theorem cut_zero (s : Bool) (n d : Nat) : Ieee.Toward.zero.cut s n d = n / 2 ^ d := by
 unfold Ieee.Toward.cut
 simp only
 rw [Nat.one_shiftLeft]
 show n / 2 ^ min d (n.log2 + 2) + 0 = _
 rw [Nat.add_zero]
 by_cases hm : d ≤ n.log2 + 2
 ·rw [Nat.min_eq_left hm]
 ·rw [Nat.min_eq_right (by omega)]
  have hlt : n < 2 ^ (n.log2 + 2) := by
   rcases Nat.eq_zero_or_pos n with h0 | h0
   ·rw [h0]; exact Nat.two_pow_pos _
   ·have := (log2_two n h0).2
    have h9 : 2 ^ (n.log2 + 1) ≤ 2 ^ (n.log2 + 2) := Nat.pow_le_pow_right (by omega) (by omega)
    omega
  have hlt2 : n < 2 ^ d := Nat.lt_of_lt_of_le hlt (Nat.pow_le_pow_right (by omega) (by omega))
  rw [Nat.div_eq_of_lt hlt, Nat.div_eq_of_lt hlt2]
theorem toInt_pos {r : Nat} (hr : r < 9218868437227405312) : (FloatKind.f64.decode r).toInt .zero = some ((fmag r / big : Nat) : Int) := by
 obtain ⟨K, hK, hb⟩ := big_K
 obtain ⟨m, e, h1, h2, h3⟩ := read_pos hr
 rw [show FloatKind.f64.decode r = Ieee.double.read r from rfl, h1]
 unfold Ieee.Datum.toInt Ieee.Datum.integral
 simp only [cut_zero, signed_eq, Nat.pow_zero, Nat.mul_one]
 have hq : (m <<< e.toNat) / 2 ^ (-e).toNat = fmag r / big := by
  rw [hb]
  have hA : fmag r * 2 ^ (-e).toNat = (m <<< e.toNat) * 2 ^ K := by
   rw [h3, Nat.shiftLeft_eq, Nat.mul_assoc, Nat.mul_assoc, ← Nat.pow_add, ← Nat.pow_add, show (e + 1074).toNat + (-e).toNat = e.toNat + K by omega]
  rw [← Nat.mul_div_mul_right (m <<< e.toNat) (2 ^ (-e).toNat) (Nat.two_pow_pos K), ← hA, Nat.mul_comm (2 ^ (-e).toNat), Nat.mul_div_mul_right _ _ (Nat.two_pow_pos _)]
 rw [hq]
 rfl
theorem conv_u64 {x T : Nat} (hx : x < 9218868437227405312) (hT : fmag x / big = T) (h : T < 9223372036854775808) (W : World) : (convert 22 71 (.float .f64 x)).run Tryz.prog W = .ok (.int .u64 (T : Int)) W := by
 refine run_convert_float_int W 22 71 .f64 .u64 _ _ (by kernel_rfl) (by kernel_rfl) ?_
 unfold floatToIntVal
 rw [toInt_pos hx, hT]
 simp only
 have m1 : IntKind.u64.min = 0 := rfl
 have m2 : IntKind.u64.max = 18446744073709551615 := rfl
 rw [if_pos (by rw [m1, m2]; omega)]
theorem frank_pos {x : Nat} (h : x ≤ 9218868437227405312) : frank x = (x : Int) ∧ rung x = x := by
 have h1 : rung x = x := by unfold rung; omega
 have h2 : fneg x = false := by unfold fneg; rw [show x / 9223372036854775808 % 2 = 0 by omega]; rfl
 refine ⟨?_, h1⟩
 unfold frank
 rw [h2, h1]
 rfl
theorem ord_lt_pos {x y : Nat} (hx : x ≤ 9218868437227405312) (hy : y ≤ 9218868437227405312) : (FloatKind.f64.format.order x y == some .lt) = decide (x < y) := by
 obtain ⟨a1, a2⟩ := frank_pos hx
 obtain ⟨b1, b2⟩ := frank_pos hy
 rw [show FloatKind.f64.format.order x y = Ieee.double.order x y from rfl, order_eq (by omega) (by omega), a1, b1, Bool.eq_iff_iff, beq_iff_eq, decide_eq_true_iff]
 rw [Option.some.injEq, Int.compare_eq_lt]
 omega
theorem ord_eq_pos {x y : Nat} (hx : x ≤ 9218868437227405312) (hy : y ≤ 9218868437227405312) : (FloatKind.f64.format.order x y == some .eq) = decide (x = y) := by
 obtain ⟨a1, a2⟩ := frank_pos hx
 obtain ⟨b1, b2⟩ := frank_pos hy
 rw [show FloatKind.f64.format.order x y = Ieee.double.order x y from rfl, order_eq (by omega) (by omega), a1, b1, Bool.eq_iff_iff, beq_iff_eq, decide_eq_true_iff]
 rw [Option.some.injEq, Int.compare_eq_eq]
 omega
theorem ord_gt_pos {x y : Nat} (hx : x ≤ 9218868437227405312) (hy : y ≤ 9218868437227405312) : (FloatKind.f64.format.order x y == some .gt) = decide (y < x) := by
 obtain ⟨a1, a2⟩ := frank_pos hx
 obtain ⟨b1, b2⟩ := frank_pos hy
 rw [show FloatKind.f64.format.order x y = Ieee.double.order x y from rfl, order_eq (by omega) (by omega), a1, b1, Bool.eq_iff_iff, beq_iff_eq, decide_eq_true_iff]
 rw [Option.some.injEq, Int.compare_eq_gt]
 omega
theorem trunc_lt {x : Nat} (h : x < 4845873199050653696) : fmag x / big < 9007199254740992 := by
 obtain ⟨K, hK, hb⟩ := big_K
 obtain ⟨J, hJ⟩ : ∃ J : Nat, J = 1075 := ⟨_, rfl⟩
 have h2 := fmag_make 4503599627370496 J (by omega) (by omega)
 rw [hJ, show 1075 * 4503599627370496 + 4503599627370496 = 4845873199050653696 from rfl, ← hJ] at h2
 have h1 := fmag_lt.2 h
 rw [Nat.div_lt_iff_lt_mul big_pos, hb]
 rw [h2, show J = 1 + K by omega, Nat.pow_add, ← Nat.mul_assoc] at h1
 exact h1
theorem float_whole {x T : Nat} (hx : x < 9218868437227405312) (hT : T < 9007199254740992) : (FloatKind.f64.format.order x (fl T) == some .eq) = decide (fmag x = T * big) := by
 obtain ⟨K, hK, hb⟩ := big_K
 obtain ⟨f1, f2⟩ := fmag_fl hT hK
 rw [ord_eq_pos (by omega) (by omega), hb, ← f1]
 refine decide_eq_decide.2 ⟨fun h => by rw [h], fun h => fmag_inj h⟩

end Go.Proofs.YtfcpkdafkmohkaaGreatDoor
namespace Go.Proofs.YtfcpkdafkmohkaaGreatDoor
open Go.RowKit
set_option maxRecDepth 100000 in
theorem traised_any {w : World} {A : Option Addr} {n c m : Nat} (t : Int) (hA : NV w A n c m) (hm : bln m ≤ 6000) (ht1 : -2000 ≤ t) (ht : t ≤ 2000) :
  Cp 185 #[.slice A n c, .int .i64 t] w (NRet (m * 5 ^ t.toNat) w) := by
 have hp := bln_five t.toNat
 obtain ⟨k, hk⟩ : ∃ k, t.toNat = k := ⟨_, rfl⟩
 rw [hk] at hp ⊢
 have C1 := Lib.hid (fun W => npow 5 k W (by omega) (by omega) (by omega))
 have C2 := Lib.hid (fun W C k2 d (h : NV W C k2 d (5 ^ k)) (g : NV W A n c m) => nmul g h (by omega) (by omega))
 have H := Lib.hid hA
 have e0 : max t 0 = (k : Int) := by omega
 clear hA hp hk hm ht1 ht
 go_enter Tryz.func185, Tryz.ntmps185
 go_wp2_with fail
 refine (C1.out _).mono ?_
 rintro e w1 ⟨A1, n1, c1, rfl, g1, b1⟩
 have G1 := Lib.hid g1
 have G0 := Lib.hid (H.out.step b1)
 have B1 := Lib.hid b1
 clear g1 b1
 go_wp2_with fail
 refine (C2.out _ _ _ _ G1.out G0.out).mono ?_
 rintro e w2 ⟨A2, n2, c2, rfl, g2, b2⟩
 have G2 := Lib.hid g2
 have B2 := Lib.hid b2
 clear g2 b2
 go_wp2
 go_ret
 exact ⟨A2, n2, c2, rfl, G2.out, below_le B1.out B2.out⟩
def QRet (a b : Nat) (w : World) (e : Ending) (w' : World) : Prop := ∃ A n c, e = .returned (.tuple #[.slice A n c, .bool (decide (a % b = 0))]) ∧ NV w' A n c (a / b) ∧ Below w.heap.size w w'
theorem len_zero {v n : Nat} (h : (wds v).length = n) : ((n : Int) == 0) = decide (v = 0) := by
 by_cases h0 : v = 0
 ·rw [h0] at h
  have : n = 0 := by rw [← h]; rfl
  rw [this, h0]; rfl
 ·have h1 : (wds v) ≠ [] := by
   intro e
   have := wds_val v
   rw [e] at this
   exact h0 this.symm
  have h2 := List.length_pos_iff.2 h1
  rw [decide_eq_false h0, beq_eq_false_iff_ne]
  omega
set_option maxRecDepth 100000 in
set_option maxHeartbeats 1000000 in
theorem tratio_any {w : World} {A C : Option Addr} {n c m d a b : Nat} (t : Int) (hA : NV w A n c a) (hC : NV w C m d b) (ha : bln a ≤ 6000) (hb : bln b ≤ 6000) (h0 : 0 < b) (ht1 : -8000 ≤ t) (ht : t ≤ 8000) :
  Cp 109 #[.slice A n c, .slice C m d, .int .i64 t] w (QRet (a * 2 ^ t.toNat) (b * 2 ^ (-t).toNat) w) := by
 have hp1 := bln_pow2 t.toNat
 have hp2 := bln_pow2 (-t).toNat
 have hm1 := bln_mul a (2 ^ t.toNat)
 have hm2 := bln_mul b (2 ^ (-t).toNat)
 have h00 : 0 < b * 2 ^ (-t).toNat := Nat.mul_pos h0 (two_pos _)
 obtain ⟨x, hx⟩ : ∃ x, t.toNat = x := ⟨_, rfl⟩
 obtain ⟨y, hy⟩ : ∃ y, (-t).toNat = y := ⟨_, rfl⟩
 rw [hx] at hp1 hm1 ⊢
 rw [hy] at hp2 hm2 h00 ⊢
 have C1 := Lib.hid (fun W (h : NV W A n c a) => nshl h x (by omega))
 have C2 := Lib.hid (fun W (h : NV W C m d b) => nshl h y (by omega))
 obtain ⟨P, hP⟩ : ∃ P, a * 2 ^ x = P := ⟨_, rfl⟩
 obtain ⟨Q, hQ⟩ : ∃ Q, b * 2 ^ y = Q := ⟨_, rfl⟩
 rw [hP] at C1 hm1 ⊢
 rw [hQ] at C2 hm2 h00 ⊢
 have C3 := Lib.hid (fun W A1 n1 c1 A2 n2 c2 (h : NV W A1 n1 c1 P) (g : NV W A2 n2 c2 Q) => ndiv h g (by omega) (by omega) h00)
 have HA := Lib.hid hA
 have HC := Lib.hid hC
 have e0 : max t 0 = (x : Int) := by omega
 have e1 : max (-t) 0 = (y : Int) := by omega
 have e2 : IntKind.i64.wrap (-t) = -t := IntWalk.i64_in _ (by omega)
 clear hA hC ha hb h0 ht1 ht hp1 hp2 hm1 hm2 hx hy hP hQ
 go_enter Tryz.func109, Tryz.ntmps109
 go_wp2_with fail
 refine (C1.out _ HA.out).mono ?_
 rintro e w1 ⟨A1, n1, c1, rfl, g1, b1⟩
 have G1 := Lib.hid g1
 have GC := Lib.hid (HC.out.step b1)
 have B1 := Lib.hid b1
 clear g1 b1
 go_wp2_with fail
 refine (C2.out _ GC.out).mono ?_
 rintro e w2 ⟨A2, n2, c2, rfl, g2, b2⟩
 have G2 := Lib.hid g2
 have G1' := Lib.hid (G1.out.step b2)
 have B2 := Lib.hid (below_le B1.out b2)
 clear g2 b2
 go_wp2_with fail
 refine (C3.out _ _ _ _ _ _ _ G1'.out G2.out).mono ?_
 rintro e w3 ⟨A3, n3, c3, A4, n4, c4, rfl, g3, g4, b3⟩
 have G3 := Lib.hid g3
 have B3 := Lib.hid (below_le B2.out b3)
 have HZ := Lib.hid (len_zero g4.len)
 clear g3 g4 b3
 go_wp2
 go_ret2
 exact ⟨A3, n3, c3, by rw [← HZ.out]; rfl, G3.out, B3.out⟩

end Go.Proofs.YtfcpkdafkmohkaaGreatDoor
namespace Go.Proofs.YtfcpkdafkmohkaaGreatDoor
open Go.RowKit
set_option maxRecDepth 100000 in
theorem tscaled_walk {w : World} {A : Option Addr} {n c m T B : Nat} {two ten t : Int} {Q : World → Ending → World → Prop} (hA : NV w A n c m)
  (C1 : Hid (∀ W, NV W A n c m → Cp 185 #[.slice A n c, .int .i64 ten] W (NRet T W)))
  (C3 : Hid (∀ W A1 n1 c1, NV W A1 n1 c1 1 → Cp 185 #[.slice A1 n1 c1, .int .i64 (-ten)] W (NRet B W)))
  (C6 : Hid (∀ W A1 n1 c1 A2 n2 c2, NV W A1 n1 c1 T → NV W A2 n2 c2 B → Cp 109 #[.slice A1 n1 c1, .slice A2 n2 c2, .int .i64 t] W fun e w' => ∃ v b, e = .returned (.tuple #[v, .bool b]) ∧ Q W e w'))
  (k1 : IntKind.i64.wrap (-ten) = -ten) (k2 : IntKind.i64.wrap (two + ten) = t) :
  Cp 123 #[.slice A n c, .int .i64 two, .int .i64 ten] w fun e w' => ∃ W, Q W e w' ∧ Below w.heap.size w W := by
 have C2 := Lib.hid (fun W => nof 1 (by omega) W)
 have HA := Lib.hid hA
 clear hA
 go_enter Tryz.func123, Tryz.ntmps123
 go_wp2_with fail
 refine (C1.out _ HA.out).mono ?_
 rintro e w1 ⟨A1, n1, c1, rfl, g1, b1⟩
 have G1 := Lib.hid g1
 have B1 := Lib.hid b1
 clear g1 b1
 go_wp2_with fail
 refine (C2.out _).mono ?_
 rintro e w2 ⟨A2, n2, c2, rfl, g2, b2⟩
 have G2 := Lib.hid g2
 have G1' := Lib.hid (G1.out.step b2)
 have B2 := Lib.hid (below_le B1.out b2)
 clear g2 b2
 go_wp2_with fail
 refine (C3.out _ _ _ _ G2.out).mono ?_
 rintro e w3 ⟨A3, n3, c3, rfl, g3, b3⟩
 have G3 := Lib.hid g3
 have G1'' := Lib.hid (G1'.out.step b3)
 have B3 := Lib.hid (below_le B2.out b3)
 clear g3 b3
 go_wp2_with fail
 refine (C6.out _ _ _ _ _ _ _ G1''.out G3.out).mono ?_
 rintro e w4 ⟨v, b, rfl, q4⟩
 have Q4 := Lib.hid q4
 clear q4
 go_wp2
 go_ret2
 exact ⟨_, Q4.out, B3.out⟩
def scA (m : Nat) (two ten : Int) : Nat := m * 5 ^ ten.toNat * 2 ^ (two + ten).toNat
def scB (two ten : Int) : Nat := 5 ^ (-ten).toNat * 2 ^ (-(two + ten)).toNat
theorem scB_pos (two ten : Int) : 0 < scB two ten := Nat.mul_pos (Nat.pow_pos (by omega)) (two_pos _)
theorem tscaled_any {w : World} {A : Option Addr} {n c m : Nat} (two ten : Int) (hA : NV w A n c m) (hm : bln m ≤ 2000) (h1 : -1000 ≤ ten) (h2 : ten ≤ 1000) (h3 : -3000 ≤ two) (h4 : two ≤ 3000) :
  Cp 123 #[.slice A n c, .int .i64 two, .int .i64 ten] w (QRet (scA m two ten) (scB two ten) w) := by
 have f1 := bln_five ten.toNat
 have f2 := bln_five (-ten).toNat
 have g1 := bln_mul m (5 ^ ten.toNat)
 have p2 : 0 < 5 ^ (-ten).toNat := Nat.pow_pos (by omega)
 have C1 := Lib.hid (fun W (h : NV W A n c m) => traised_any ten h (by omega) (by omega) (by omega))
 have C3 : Hid (∀ W A1 n1 c1, NV W A1 n1 c1 1 → Cp 185 #[.slice A1 n1 c1, .int .i64 (-ten)] W (NRet (5 ^ (-ten).toNat) W)) := Lib.hid (fun W A1 n1 c1 h => by
  have := traised_any (-ten) h (by rw [show bln 1 = 1 by decide]; omega) (by omega) (by omega)
  rw [Nat.one_mul] at this
  exact this)
 have C6 : Hid (∀ W A1 n1 c1 A2 n2 c2, NV W A1 n1 c1 (m * 5 ^ ten.toNat) → NV W A2 n2 c2 (5 ^ (-ten).toNat) → Cp 109 #[.slice A1 n1 c1, .slice A2 n2 c2, .int .i64 (two + ten)] W fun e w' => ∃ v b, e = .returned (.tuple #[v, .bool b]) ∧ QRet (scA m two ten) (scB two ten) W e w') := Lib.hid (fun W A1 n1 c1 A2 n2 c2 h g => (tratio_any (two + ten) h g (by omega) (by omega) p2 (by omega) (by omega)).mono (by
  rintro e w' ⟨A3, n3, c3, rfl, hv, hb⟩
  exact ⟨_, _, rfl, A3, n3, c3, rfl, hv, hb⟩))
 refine (tscaled_walk hA C1 C3 C6 (IntWalk.i64_in _ (by omega)) (IntWalk.i64_in _ (by omega))).mono ?_
 rintro e w' ⟨W, ⟨A3, n3, c3, rfl, hv, hb⟩, hw⟩
 exact ⟨A3, n3, c3, rfl, hv, below_le hw hb⟩

end Go.Proofs.YtfcpkdafkmohkaaGreatDoor
namespace Go.Proofs.YtfcpkdafkmohkaaGreatDoor
open Go.RowKit
theorem sc_le (m : Nat) (two n : Int) : scB two (-n) ≤ scA m two (-n) ↔ le10 n (m * 2 ^ two.toNat) (2 ^ (-two).toNat) := by
 unfold le10 scA scB
 obtain ⟨a, ha⟩ : ∃ a, two.toNat = a := ⟨_, rfl⟩
 obtain ⟨b, hb⟩ : ∃ b, (-two).toNat = b := ⟨_, rfl⟩
 obtain ⟨c, hc⟩ : ∃ c, n.toNat = c := ⟨_, rfl⟩
 obtain ⟨d, hd⟩ : ∃ d, (-n).toNat = d := ⟨_, rfl⟩
 obtain ⟨p, hp⟩ : ∃ p, (two + -n).toNat = p := ⟨_, rfl⟩
 obtain ⟨q, hq⟩ : ∃ q, (-(two + -n)).toNat = q := ⟨_, rfl⟩
 rw [ha, hb, hc, hd, hp, hq, show (- -n).toNat = c by omega]
 have e : 2 ^ q * (2 ^ a * 2 ^ d) = 2 ^ p * (2 ^ b * 2 ^ c) := by
  rw [← Nat.pow_add, ← Nat.pow_add, ← Nat.pow_add, ← Nat.pow_add]
  exact congrArg (fun k => 2 ^ k) (by omega)
 have t1 : (10 : Nat) ^ c = 5 ^ c * 2 ^ c := by rw [← Nat.mul_pow]
 have t2 : (10 : Nat) ^ d = 5 ^ d * 2 ^ d := by rw [← Nat.mul_pow]
 rw [t1, t2]
 have hq0 := two_pos q
 have hbc : 0 < 2 ^ b * 2 ^ c := Nat.mul_pos (two_pos b) (two_pos c)
 generalize 2 ^ q = Q at *
 generalize 2 ^ a = A at *
 generalize 2 ^ d = D at *
 generalize 2 ^ p = P at *
 generalize 2 ^ b = B at *
 generalize 2 ^ c = C at *
 generalize 5 ^ c = F at *
 generalize 5 ^ d = G at *
 have r1 : B * (F * C) * Q = F * Q * (B * C) := by grind
 have r2 : m * A * (G * D) * Q = m * G * (Q * (A * D)) := by grind
 have r3 : m * G * P * (B * C) = m * G * (P * (B * C)) := by grind
 constructor
 ·intro h
  refine Nat.le_of_mul_le_mul_right ?_ hq0
  rw [r1, r2, e, ← r3]
  exact Nat.mul_le_mul_right _ h
 ·intro h
  refine Nat.le_of_mul_le_mul_right ?_ hbc
  have := Nat.mul_le_mul_right Q h
  rw [r1, r2, e, ← r3] at this
  exact this
set_option maxRecDepth 100000 in
set_option maxHeartbeats 1000000 in
theorem tpoint_walk {w : World} {A : Option Addr} {n c m bt V : Nat} {two x1 x2 x3 x4 x5 n1 : Int} (hA : NV w A n c m) (up : Bool)
  (C1 : Hid (∀ W, NV W A n c m → Cq 156 #[.slice A n c] (.int .i64 (bt : Nat)) W))
  (C2 : Hid (∀ W, NV W A n c m → Cp 123 #[.slice A n c, .int .i64 two, .int .i64 (-n1)] W fun e w' => ∃ A3 n3 c3 b, e = .returned (.tuple #[.slice A3 n3 c3, .bool b]) ∧ NV w' A3 n3 c3 V ∧ Below W.heap.size W w'))
  (k1 : wrap64 ((bt : Int) + two) = x1) (k2 : wrap64 (x1 - 1) = x2) (k3 : wrap64 (x2 * 78913) = x3) (k4 : x3 / 262144 = x4) (k5 : wrap64 (x4 + 1) = n1) (k6 : wrap64 (-n1) = -n1) (k7 : wrap64 (n1 + 1) = x5) (hup : up = decide (0 < V)) :
  Ct 94 #[.slice A n c, .int .i64 two] (.int .i64 (if up = true then x5 else n1)) w := by
 have HA := Lib.hid hA
 have HU := Lib.hid hup
 clear hA hup
 go_enter Tryz.func94, Tryz.ntmps94
 go_wp2_with fail
 refine (C1.out _ HA.out).mono ?_
 rintro e w' ⟨rfl, rfl⟩
 go_wp2_with fail
 refine (C2.out _ HA.out).mono ?_
 rintro e w1 ⟨A3, n3, c3, b, rfl, g, b1⟩
 have B1 := Lib.hid b1
 have hl := g.len
 clear b1
 have h0 := HU.out
 cases up
 ·have hV : V = 0 := by
   have := of_decide_eq_false h0.symm
   omega
  have t1 : ¬ (0 : Int) < (n3 : Int) := by
   rw [hV] at hl
   have : n3 = 0 := by rw [← hl]; rfl
   omega
  clear g hl h0 hV
  go_wp2
  go_ret
  exact ⟨rfl, B1.out⟩
 ·have hV : 0 < V := of_decide_eq_true h0.symm
  have t1 : (0 : Int) < (n3 : Int) := by
   have h2 : (wds V) ≠ [] := fun e => by
    have h3 := wds_val V
    rw [e] at h3
    have : val [] = 0 := rfl
    omega
   have := List.length_pos_iff.2 h2
   omega
  clear g hl h0 hV
  go_wp2
  go_ret
  exact ⟨rfl, B1.out⟩

end Go.Proofs.YtfcpkdafkmohkaaGreatDoor
namespace Go.Proofs.YtfcpkdafkmohkaaGreatDoor
open Go.RowKit
theorem lead_at {m k : Nat} {two e : Int} (h1 : 2 ^ k ≤ m) (h2 : m < 2 ^ (k + 1)) (he : (k : Int) + two = e) :
  2 ^ e.toNat * 2 ^ (-two).toNat ≤ m * 2 ^ two.toNat * 2 ^ (-e).toNat ∧ m * 2 ^ two.toNat * 2 ^ (-e).toNat < 2 * 2 ^ e.toNat * 2 ^ (-two).toNat := by
 have key : 2 ^ k * 2 ^ two.toNat * 2 ^ (-e).toNat = 2 ^ e.toNat * 2 ^ (-two).toNat := by
  rw [← Nat.pow_add, ← Nat.pow_add, ← Nat.pow_add]
  exact congrArg (fun k => 2 ^ k) (by omega)
 have hp := two_pos two.toNat
 have hq := two_pos (-e).toNat
 constructor
 ·rw [← key]
  exact Nat.mul_le_mul_right _ (Nat.mul_le_mul_right _ h1)
 ·rw [Nat.mul_assoc, Nat.mul_assoc 2, ← key, ← Nat.mul_assoc m, ← Nat.mul_assoc 2, ← Nat.mul_assoc 2, show 2 * 2 ^ k = 2 ^ (k + 1) by rw [Nat.pow_succ, Nat.mul_comm]]
  exact Nat.mul_lt_mul_of_pos_right (Nat.mul_lt_mul_of_pos_right h2 hp) hq
theorem tpoint_any {w : World} {A : Option Addr} {n c m : Nat} (two : Int) (hA : NV w A n c m) (h0 : 0 < m) (hm : bln m ≤ 100) (h1 : -1140 < (bln m : Int) + two - 1) (h2 : (bln m : Int) + two - 1 < 1100) :
  ∃ p : Int, PointAt (m * 2 ^ two.toNat) (2 ^ (-two).toNat) p ∧ -345 ≤ p ∧ p ≤ 335 ∧ Ct 94 #[.slice A n c, .int .i64 two] (.int .i64 p) w := by
 obtain ⟨u1, u2, u3⟩ := bln_bounds h0
 obtain ⟨k, hk⟩ : ∃ k, bln m = k + 1 := ⟨bln m - 1, by omega⟩
 have C1 := Lib.hid (fun W (h : NV W A n c m) => nbits h (by omega))
 rw [hk] at u1 u2 hm h1 h2 C1
 rw [Nat.add_sub_cancel] at u1
 obtain ⟨e, he⟩ : ∃ e, (k : Int) + two = e := ⟨_, rfl⟩
 obtain ⟨l1, l2⟩ := lead_at u1 u2 he
 obtain ⟨p1, p2⟩ := point_lg (u := m * 2 ^ two.toNat) (v := 2 ^ (-two).toNat) (e := e) (two_pos _) (by omega) (by omega) l1 l2
 obtain ⟨n1, hn1⟩ : ∃ n1, lg2 e + 1 = n1 := ⟨_, rfl⟩
 have hlg : e * 78913 / 262144 = n1 - 1 := by unfold lg2 at hn1; omega
 have b1 : -345 ≤ n1 ∧ n1 ≤ 333 := by omega
 rw [hn1] at p1 p2
 rw [show lg2 e + 2 = n1 + 1 by omega] at p2
 have hs := sc_le m two n1
 have hq : (0 < scA m two (-n1) / scB two (-n1)) ↔ le10 n1 (m * 2 ^ two.toNat) (2 ^ (-two).toNat) := by
  rw [Nat.div_pos_iff, ← hs]
  exact ⟨fun h => h.2, fun h => ⟨scB_pos _ _, h⟩⟩
 have C2 : Hid (∀ W, NV W A n c m → Cp 123 #[.slice A n c, .int .i64 two, .int .i64 (-n1)] W fun e w' => ∃ A3 n3 c3 b, e = .returned (.tuple #[.slice A3 n3 c3, .bool b]) ∧ NV w' A3 n3 c3 (scA m two (-n1) / scB two (-n1)) ∧ Below W.heap.size W w') := Lib.hid (fun W h => (tscaled_any two (-n1) h (by omega) (by omega) (by omega) (by omega) (by omega)).mono (by
  rintro e w' ⟨A3, n3, c3, rfl, hv, hb⟩
  exact ⟨A3, n3, c3, _, rfl, hv, hb⟩))
 have W := fun up h => tpoint_walk (two := two) (x1 := ((k + 1 : Nat) : Int) + two) (x2 := e) (x3 := e * 78913) (x4 := n1 - 1) (x5 := n1 + 1) (n1 := n1) hA up C1 C2 (by unfold wrap64; omega) (by unfold wrap64; omega) (by unfold wrap64; omega) hlg (by unfold wrap64; omega) (by unfold wrap64; omega) (by unfold wrap64; omega) h
 by_cases h : 0 < scA m two (-n1) / scB two (-n1)
 ·exact ⟨n1 + 1, p2 (hq.1 h), by omega, by omega, W true (decide_eq_true h).symm⟩
 ·exact ⟨n1, p1 (fun hh => h (hq.2 hh)), by omega, by omega, W false (decide_eq_false h).symm⟩

end Go.Proofs.YtfcpkdafkmohkaaGreatDoor
namespace Go.Proofs.YtfcpkdafkmohkaaGreatDoor
theorem two_move {N S P Q x y : Nat} (h : N * 2 ^ x = S * 2 ^ y) (e : P + y = x + Q) : N * 2 ^ P = S * 2 ^ Q := by
 refine Nat.eq_of_mul_eq_mul_right (two_pos y) ?_
 rw [Nat.mul_assoc, ← Nat.pow_add, e, Nat.pow_add, ← Nat.mul_assoc, h, Nat.mul_assoc, Nat.mul_assoc, Nat.mul_comm (2 ^ y)]
theorem sc_cross {N S M x y : Nat} {two ten : Int} (hxy : (x : Int) - y = two + M) (h : N * 2 ^ x = S * 2 ^ y) :
  scA N two ten * (2 ^ M * 10 ^ (-ten).toNat) = S * 10 ^ ten.toNat * scB two ten := by
 unfold scA scB
 obtain ⟨a, ha⟩ : ∃ a, ten.toNat = a := ⟨_, rfl⟩
 obtain ⟨b, hb⟩ : ∃ b, (-ten).toNat = b := ⟨_, rfl⟩
 obtain ⟨p, hp⟩ : ∃ p, (two + ten).toNat = p := ⟨_, rfl⟩
 obtain ⟨q, hq⟩ : ∃ q, (-(two + ten)).toNat = q := ⟨_, rfl⟩
 rw [ha, hb, hp, hq]
 have key := two_move (P := p + (M + b)) (Q := a + q) h (by omega)
 rw [Nat.pow_add, Nat.pow_add, Nat.pow_add] at key
 have t1 : (10 : Nat) ^ a = 5 ^ a * 2 ^ a := by rw [← Nat.mul_pow]
 have t2 : (10 : Nat) ^ b = 5 ^ b * 2 ^ b := by rw [← Nat.mul_pow]
 rw [t1, t2]
 generalize 2 ^ p = P' at *
 generalize 2 ^ M = M' at *
 generalize 2 ^ b = B' at *
 generalize 2 ^ a = A' at *
 generalize 2 ^ q = Q' at *
 generalize 5 ^ a = F
 generalize 5 ^ b = G
 have r1 : N * F * P' * (M' * (G * B')) = F * G * (N * (P' * (M' * B'))) := by grind
 have r2 : S * (F * A') * (G * Q') = F * G * (S * (A' * Q')) := by grind
 rw [r1, r2, key]
theorem rest_cross {a b c d : Nat} (hb : 0 < b) (hd : 0 < d) (h : a * d = c * b) : a % b = 0 ↔ c % d = 0 := by
 have e := (quot_cross hb hd h).1
 have h1 := Nat.div_add_mod a b
 have h2 := Nat.div_add_mod c d
 generalize a % b = s at *
 generalize c % d = t at *
 rw [← e] at h2
 generalize a / b = q at *
 have k1 : a * d = b * q * d + s * d := by rw [← h1]; grind
 have k2 : c * b = b * q * d + t * b := by rw [← h2]; grind
 have k3 : s * d = t * b := by omega
 constructor
 ·intro h0
  rw [h0, Nat.zero_mul] at k3
  rcases Nat.mul_eq_zero.1 k3.symm with h | h
  ·exact h
  ·omega
 ·intro h0
  rw [h0, Nat.zero_mul] at k3
  rcases Nat.mul_eq_zero.1 k3 with h | h
  ·exact h
  ·omega
theorem quarters {r c D : Nat} (h1 : r = D * 4503599627370496 + c) (h2 : c < 9007199254740992) (h3 : D = 0 ∨ 4503599627370496 ≤ c) (h0 : 0 < r) :
  2 * (fmag r + fmag (r + 1)) = (4 * c + 2) * 2 ^ D ∧ 2 * (fmag (r - 1) + fmag r) = (4 * c - (if c = 4503599627370496 ∧ 0 < D then 1 else 2)) * 2 ^ D := by
 obtain ⟨D', c', e1, e2, e3, e4, e5⟩ := rung_parts r
 have hD : D' = D ∧ c' = c := by
  rcases h3 with h3 | h3 <;> rcases e3 with e3 | e3 <;> omega
 obtain ⟨rfl, rfl⟩ := hD
 have hc0 : 0 < c' := by
  rcases h3 with h3 | h3
  ·subst h3; omega
  ·omega
 refine ⟨by rw [e4, e5, ← Nat.add_mul]; grind, ?_⟩
 by_cases hp : c' = 4503599627370496 ∧ 0 < D'
 ·obtain ⟨p1, p2⟩ := hp
  rw [if_pos ⟨p1, p2⟩]
  obtain ⟨d, rfl⟩ : ∃ d, D' = d + 1 := ⟨D' - 1, by omega⟩
  have hr : r - 1 = d * 4503599627370496 + 9007199254740991 := by omega
  have hm := fmag_make 9007199254740991 d (by omega) (by omega)
  rw [← hr] at hm
  rw [hm, e4, p1, Nat.pow_succ]
  generalize 2 ^ d = X
  omega
 ·rw [if_neg hp]
  have hm : fmag (r - 1) = (c' - 1) * 2 ^ D' := by
   rcases Nat.eq_zero_or_pos D' with hD | hD
   ·subst hD
    rw [show r - 1 = c' - 1 by omega, fmag_low (by omega)]
    simp
   ·have : 4503599627370496 < c' := by
     rcases e3 with e3 | e3
     ·omega
     ·have : c' ≠ 4503599627370496 := fun h => hp ⟨h, hD⟩
      omega
    have hm := fmag_make (c' - 1) D' (by omega) (by omega)
    rw [← hm]
    exact congrArg fmag (by omega)
  rw [hm, e4]
  obtain ⟨x, rfl⟩ : ∃ x, c' = x + 1 := ⟨c' - 1, by omega⟩
  generalize 2 ^ D' = X
  rw [show 4 * (x + 1) - 2 = 4 * x + 2 by omega, show x + 1 - 1 = x by omega]
  grind

end Go.Proofs.YtfcpkdafkmohkaaGreatDoor
namespace Go.Proofs.YtfcpkdafkmohkaaGreatDoor
def PartIs (r m : Nat) (two : Int) : Prop := ∃ c D k : Nat, r = D * 4503599627370496 + c ∧ c < 9007199254740992 ∧ (D = 0 ∨ 4503599627370496 ≤ c) ∧ c = m * 2 ^ k ∧ two = (D : Int) - 1074 + k ∧ m % 2 = 1 ∧ D ≤ 2045 ∧ k ≤ 52
theorem bln_of {m L : Nat} (h1 : 2 ^ L ≤ m) (h2 : m < 2 ^ (L + 1)) : bln m = L + 1 := by
 have h0 : 0 < m := Nat.lt_of_lt_of_le (two_pos L) h1
 obtain ⟨b1, b2, b3⟩ := bln_bounds h0
 have c1 : L < bln m := (Nat.pow_lt_pow_iff_right (by omega)).1 (Nat.lt_of_le_of_lt h1 b2)
 have c2 : bln m - 1 < L + 1 := (Nat.pow_lt_pow_iff_right (a := 2) (by omega)).1 (Nat.lt_of_le_of_lt b1 h2)
 omega
theorem bln_shift {m k : Nat} (h0 : 0 < m) : bln (m * 2 ^ k) = bln m + k := by
 obtain ⟨b1, b2, b3⟩ := bln_bounds h0
 obtain ⟨L, hL⟩ : ∃ L, bln m = L + 1 := ⟨bln m - 1, by omega⟩
 rw [hL] at b1 b2
 rw [hL, bln_of (L := L + k)]
 ·omega
 ·rw [Nat.pow_add]
  exact Nat.mul_le_mul_right _ b1
 ·rw [show L + k + 1 = L + 1 + k by omega, Nat.pow_add]
  exact Nat.mul_lt_mul_of_pos_right b2 (two_pos k)
theorem PartIs.mag {r m : Nat} {two : Int} (h : PartIs r m two) {K : Nat} (hK : K = 1074) : ∃ t : Nat, (t : Int) = two + K ∧ fmag r = m * 2 ^ t := by
 obtain ⟨c, D, k, h1, h2, h3, h4, h5, h6, _, _⟩ := h
 obtain ⟨D', c', e1, e2, e3, e4, e5⟩ := rung_parts r
 have hD : D' = D ∧ c' = c := by
  rcases h3 with h3 | h3 <;> rcases e3 with e3 | e3 <;> omega
 obtain ⟨rfl, rfl⟩ := hD
 refine ⟨k + D', by omega, ?_⟩
 rw [e4, h4, Nat.mul_assoc, ← Nat.pow_add]
theorem PartIs.pos {r m : Nat} {two : Int} (h : PartIs r m two) : 0 < m ∧ bln m ≤ 53 ∧ -1074 < (bln m : Int) + two ∧ (bln m : Int) + two ≤ 1024 ∧ -1074 ≤ two ∧ two ≤ 1023 := by
 obtain ⟨c, D, k, h1, h2, h3, h4, h5, h6, h7, h8⟩ := h
 have h0 : 0 < m := by omega
 have hb := bln_shift (k := k) h0
 rw [← h4] at hb
 have hc : 0 < c := by rw [h4]; exact Nat.mul_pos h0 (two_pos k)
 obtain ⟨b1, b2, b3⟩ := bln_bounds hc
 obtain ⟨_, _, b6⟩ := bln_bounds h0
 have : bln c ≤ 53 := bln_le (by omega)
 omega
theorem vcross {r m : Nat} {two : Int} (h : PartIs r m two) : m * 2 ^ two.toNat * big = fmag r * 2 ^ (-two).toNat := by
 obtain ⟨K, hK, hb⟩ := big_K
 obtain ⟨t, ht, hm⟩ := h.mag hK
 rw [hm, hb, Nat.mul_assoc, Nat.mul_assoc, ← Nat.pow_add, ← Nat.pow_add]
 exact congrArg (fun k => m * 2 ^ k) (by omega)
theorem point_cross {u v u' v' : Nat} {n : Int} (hv : 0 < v) (hv' : 0 < v') (h : u * v' = u' * v) (hp : PointAt u v n) : PointAt u' v' n :=
 ⟨le10_mono hv (Nat.le_of_eq h) hp.1, fun g => hp.2 (le10_mono hv' (Nat.le_of_eq h.symm) g)⟩
theorem here_cross {r m c D k : Nat} {s : Int} {K : Nat} (hK : K = 1074) (h1 : r = D * 4503599627370496 + c) (h2 : c < 9007199254740992) (h3 : D = 0 ∨ 4503599627370496 ≤ c) (h4 : c = m * 2 ^ k) :
  scA (m * 2 ^ (k + 2)) ((D : Int) - 1076) s * vV s = vU r s * scB ((D : Int) - 1076) s := by
 obtain ⟨K', hK', hb⟩ := big_K
 have : K' = K := by omega
 subst this
 obtain ⟨D', c', e1, e2, e3, e4, e5⟩ := rung_parts r
 have hD : D' = D ∧ c' = c := by
  rcases h3 with h3 | h3 <;> rcases e3 with e3 | e3 <;> omega
 obtain ⟨rfl, rfl⟩ := hD
 unfold vV vU
 rw [hb]
 refine sc_cross (x := D') (y := 2) (by omega) ?_
 rw [e4, h4, Nat.pow_add]
 generalize 2 ^ D' = X
 generalize 2 ^ k = Y
 grind
theorem end_cross {N S D : Nat} {s : Int} {K : Nat} (hK : K = 1074) (h : 2 * S = N * 2 ^ D) : scA N ((D : Int) - 1076) s * (2 * vV s) = S * 10 ^ s.toNat * scB ((D : Int) - 1076) s := by
 obtain ⟨K', hK', hb⟩ := big_K
 have : K' = K := by omega
 subst this
 unfold vV
 rw [hb, show 2 * (2 ^ K' * 10 ^ (-s).toNat) = 2 ^ (K' + 1) * 10 ^ (-s).toNat from by rw [Nat.pow_succ]; grind]
 exact sc_cross (x := D) (y := 1) (by omega) (by rw [Nat.pow_one]; omega)
theorem here_lt {r : Nat} {n : Int} (hp : PointAt (fmag r) big n) : vU r (18 - n) / vV (18 - n) < 1000000000000000000 ∧ 100000000000000000 ≤ vU r (18 - n) / vV (18 - n) := by
 have h := cq_hi (k := 18) hp
 have g := cq_lo (k := 18) hp (by omega)
 exact ⟨h, g⟩
theorem next_le {r : Nat} (h0 : 0 < r) : fmag (r + 1) ≤ 2 * fmag r := by
 obtain ⟨D, c, e1, e2, e3, e4, e5⟩ := rung_parts r
 have hc : 1 ≤ c := by
  rcases e3 with e3 | e3
  ·subst e3; omega
  ·omega
 rw [e4, e5, ← Nat.mul_assoc]
 exact Nat.mul_le_mul_right _ (by omega)
theorem most_lt {r : Nat} {n : Int} (h0 : 0 < r) (hp : PointAt (fmag r) big n) : (fmag r + fmag (r + 1)) * 10 ^ ((18 : Int) - n).toNat / (2 * vV (18 - n)) < 2000000000000000000 ∧ 0 < (fmag r + fmag (r + 1)) * 10 ^ ((18 : Int) - n).toNat / (2 * vV (18 - n)) := by
 obtain ⟨h1, h2⟩ := here_lt hp
 have hv := vV_pos (18 - n)
 rw [Nat.div_lt_iff_lt_mul hv] at h1
 rw [Nat.le_div_iff_mul_le hv] at h2
 have h3 := next_le h0
 unfold vU at h1 h2
 have hup : fmag r < fmag (r + 1) := fmag_step (by omega)
 generalize 10 ^ ((18 : Int) - n).toNat = B at *
 generalize vV (18 - n) = V at *
 generalize fmag r = f at *
 generalize fmag (r + 1) = g at *
 have h4 : g * B ≤ 2 * (f * B) := by rw [← Nat.mul_assoc]; exact Nat.mul_le_mul_right _ h3
 have h5 : f * B ≤ g * B := Nat.mul_le_mul_right _ (by omega)
 constructor
 ·rw [Nat.div_lt_iff_lt_mul (by omega), Nat.add_mul]
  omega
 ·rw [Nat.div_pos_iff, Nat.add_mul]
  omega
theorem least_lt {r : Nat} {n : Int} (h0 : 0 < r) (hp : PointAt (fmag r) big n) : (fmag (r - 1) + fmag r) * 10 ^ ((18 : Int) - n).toNat / (2 * vV (18 - n)) < 1000000000000000000 := by
 obtain ⟨h1, h2⟩ := here_lt hp
 have hv := vV_pos (18 - n)
 rw [Nat.div_lt_iff_lt_mul hv] at h1
 unfold vU at h1
 have hup : fmag (r - 1) < fmag r := fmag_step (by omega)
 generalize 10 ^ ((18 : Int) - n).toNat = B at *
 generalize vV (18 - n) = V at *
 generalize fmag r = f at *
 generalize fmag (r - 1) = g at *
 have h5 : g * B ≤ f * B := Nat.mul_le_mul_right _ (by omega)
 rw [Nat.div_lt_iff_lt_mul (by omega), Nat.add_mul]
 omega

end Go.Proofs.YtfcpkdafkmohkaaGreatDoor
namespace Go.Proofs.YtfcpkdafkmohkaaGreatDoor
open Go.RowKit
set_option maxRecDepth 100000 in
set_option maxHeartbeats 1000000 in
theorem tword_any {w : World} {A : Option Addr} {n c v : Nat} (hA : NV w A n c v) (hv : v < 18446744073709551616) :
  Cq 159 #[.slice A n c] (.int .u64 v) w := by
 have hn : n ≤ 2 := by
  rw [← hA.len]
  exact wds_len_lt (by rw [show (4294967296 : Nat) ^ 2 = 18446744073709551616 from by decide]; exact hv)
 have hL := hA.len
 have hws := wds_ws v
 by_cases hn0 : n = 0
 ·subst hn0
  have hv0 : v = 0 := by
   have h1 := wds_val v
   rw [List.eq_nil_of_length_eq_zero hL] at h1
   exact h1.symm
  subst hv0
  clear hL hws hv hA hn
  go_enter Tryz.func159, Tryz.ntmps159
  go_wp2
  go_loopw [3, 8] (fun a i wr => a = .int .u64 0 ∧ i = .int .i64 0 ∧ w = wr) (fun _ _ _ => 0)
  case atStart => exact ⟨rfl, rfl, rfl⟩
  case round =>
   obtain ⟨rfl, rfl, rfl⟩ := hrel
   go_wp2
   go_ret
   exact ⟨rfl, rfl⟩
 ·obtain ⟨b, off, rfl, _, hc⟩ := hA.row.2 (by omega)
  obtain ⟨x, hx⟩ : ∃ x, (wds v).getD 0 0 = x := ⟨_, rfl⟩
  obtain ⟨y, hy⟩ : ∃ y, (wds v).getD 1 0 = y := ⟨_, rfl⟩
  have hxl : x < 4294967296 := by rw [← hx]; exact hws.getD 0
  have hyl : y < 4294967296 := by rw [← hy]; exact hws.getD 1
  have hV1 : n = 1 → v = x := by
   intro h1
   have h2 := wds_val v
   rw [← val_take_end (k := 1) (by omega), val_take_next, hx] at h2
   simp [val] at h2
   exact h2.symm
  have hV2 : n = 2 → v = x + 4294967296 * y := by
   intro h1
   have h2 := wds_val v
   rw [← val_take_end (k := 2) (by omega), val_take_next, val_take_next, hx, hy] at h2
   simp [val] at h2
   exact h2.symm
  have c0 : w.cell? ⟨b, off, none⟩ = some (.int .u32 (x : Int)) := by
   rw [← hx]
   exact hc 0 _ (getD_some (by omega))
  have hx0 : bits BinOp.or IntKind.u64 0 (x : Int) = (x : Int) := by
   have := or_u64 0 x (by omega) (by omega)
   rw [Nat.zero_or] at this
   exact this
  have k1 : IntKind.u64.wrap (x : Int) = (x : Int) := IntWalk.u64_in _ (by omega)
  rcases (show n = 1 ∨ n = 2 by omega) with rfl | rfl
  ·have hv1 := hV1 rfl
   subst hv1
   clear hV1 hV2 hx hy hyl hws hL hA hn hn0 hc
   go_enter Tryz.func159, Tryz.ntmps159
   go_wp2
   go_loopw [3, 8] (fun a i wr => ((a = .int .u64 0 ∧ i = .int .i64 0) ∨ (a = .int .u64 (v : Int) ∧ i = .int .i64 1)) ∧ w = wr) (fun _ i _ => 1 - (intOf i).toNat)
   case atStart => exact ⟨Or.inl ⟨rfl, rfl⟩, rfl⟩
   case round =>
    obtain ⟨⟨rfl, rfl⟩ | ⟨rfl, rfl⟩, rfl⟩ := hrel
    ·go_wp2
     exact ⟨⟨Or.inr ⟨rfl, rfl⟩, trivial⟩, by simp [intOf]⟩
    ·go_wp2
     go_ret
     exact ⟨rfl, rfl⟩
  ·have hv2 := hV2 rfl
   have c1 : w.cell? ⟨b, off + 1, none⟩ = some (.int .u32 (y : Int)) := by
    rw [← hy]
    exact hc 1 _ (getD_some (by omega))
   have k2 : IntKind.u64.wrap (y : Int) = (y : Int) := IntWalk.u64_in _ (by omega)
   have k3 : IntKind.u64.wrap ((y : Int) * 4294967296) = (y : Int) * 4294967296 := IntWalk.u64_in _ (by omega)
   have hy0 : bits BinOp.or IntKind.u64 (x : Int) ((y : Int) * 4294967296) = (v : Int) := by
    have h1 := or_u64 x (y * 4294967296) (by omega) (by omega)
    have h2 : ((y * 4294967296 : Nat) : Int) = (y : Int) * 4294967296 := by omega
    rw [h2] at h1
    rw [h1, Nat.or_comm, two_word y x hxl, hv2, Nat.mul_comm y, Nat.add_comm]
   clear hV1 hV2 hx hy hws hL hA hn hn0 hc hv2 hxl hyl hv
   go_enter Tryz.func159, Tryz.ntmps159
   go_wp2
   go_loopw [3, 8] (fun a i wr => ((a = .int .u64 0 ∧ i = .int .i64 0) ∨ (a = .int .u64 (x : Int) ∧ i = .int .i64 1) ∨ (a = .int .u64 (v : Int) ∧ i = .int .i64 2)) ∧ w = wr) (fun _ i _ => 2 - (intOf i).toNat)
   case atStart => exact ⟨Or.inl ⟨rfl, rfl⟩, rfl⟩
   case round =>
    obtain ⟨⟨rfl, rfl⟩ | ⟨rfl, rfl⟩ | ⟨rfl, rfl⟩, rfl⟩ := hrel
    ·go_wp2
     exact ⟨⟨Or.inr (Or.inl ⟨rfl, rfl⟩), trivial⟩, by simp [intOf]⟩
    ·go_wp2
     exact ⟨⟨Or.inr (Or.inr ⟨rfl, rfl⟩), trivial⟩, by simp [intOf]⟩
    ·go_wp2
     go_ret
     exact ⟨rfl, rfl⟩

end Go.Proofs.YtfcpkdafkmohkaaGreatDoor
namespace Go.Proofs.YtfcpkdafkmohkaaGreatDoor
open Go.RowKit
theorem results_cell_one {fn : Func} {p : Tmp} {ty : TypeId} (h : fn.results = #[.cell p ty]) (tmps : Array Value) (P : Program) (w : World) (a : Addr) (v : Value) (ha : tmps.getD p undef = .pointer (some a)) (hl : (loadVar ty a).run P w = .ok v w) : (results fn tmps).run P w = .ok v w := by
 simp only [results, h]
 simp [-Array.getD_eq_getD_getElem?, ha, asAddr, hl]
def Rv (w : World) (g : Nat) (a : Array Value) : Prop := w.heap[g]? = some (.cells a 91 (0, 0))
def zq : Array Value := #[.int .u64 0, .bool false, .int .u64 0, .int .u64 0]
set_option maxRecDepth 100000 in
set_option maxHeartbeats 3000000 in
theorem tspan_one {w : World} {A : Option Addr} {n c m bt bw q H L M : Nat} {two ten x1 x2 last x3 x4 x5 bI : Int} {hE lE mE ev : Bool} (hA : NV w A n c m)
    (C1 : Hid (∀ W, NV W A n c m → Cq 156 #[.slice A n c] (.int .i64 (bt : Nat)) W))
    (C2 : Hid (∀ W, NV W A n c m → Cp 157 #[.slice A n c, .int .i64 x4] W (NOk q W)))
    (C3 : Hid (∀ W, Cp 110 #[.int .u64 bI] W (NRet bw W)))
    (C4 : Hid (∀ W A1 n1 c1 A2 n2 c2, NV W A1 n1 c1 q → NV W A2 n2 c2 bw → Cp 158 #[.slice A1 n1 c1, .slice A2 n2 c2] W (NOk (q - bw) W)))
    (C5 : Hid (∀ W, Cp 110 #[.int .u64 2] W (NRet 2 W)))
    (C6 : Hid (∀ W A1 n1 c1 A2 n2 c2, NV W A1 n1 c1 q → NV W A2 n2 c2 2 → Cp 124 #[.slice A1 n1 c1, .slice A2 n2 c2] W (NOk (q + 2) W)))
    (S1 : Hid (∀ W A1 n1 c1, NV W A1 n1 c1 q → Cp 123 #[.slice A1 n1 c1, .int .i64 x5, .int .i64 ten] W fun e w' => ∃ A3 n3 c3, e = .returned (.tuple #[.slice A3 n3 c3, .bool hE]) ∧ NV w' A3 n3 c3 H ∧ Below W.heap.size W w'))
    (S2 : Hid (∀ W A1 n1 c1, NV W A1 n1 c1 (q - bw) → Cp 123 #[.slice A1 n1 c1, .int .i64 x5, .int .i64 ten] W fun e w' => ∃ A3 n3 c3, e = .returned (.tuple #[.slice A3 n3 c3, .bool lE]) ∧ NV w' A3 n3 c3 L ∧ Below W.heap.size W w'))
    (S3 : Hid (∀ W A1 n1 c1, NV W A1 n1 c1 (q + 2) → Cp 123 #[.slice A1 n1 c1, .int .i64 x5, .int .i64 ten] W fun e w' => ∃ A3 n3 c3, e = .returned (.tuple #[.slice A3 n3 c3, .bool mE]) ∧ NV w' A3 n3 c3 M ∧ Below W.heap.size W w'))
    (hH : H < 18446744073709551616) (hL : L < 9223372036854775808) (hM : M < 9223372036854775808) (hM0 : 0 < M)
    (k1 : wrap64 ((bt : Int) + two) = x1) (k2 : wrap64 (x1 - 53) = x2) (hmax : max x2 (-1074) = last) (k3 : wrap64 (two - last) = x3) (k4 : wrap64 (x3 + 2) = x4) (k5 : wrap64 (last - 2) = x5)
    (hb : bt = 1 ∧ -1074 < last ∧ bI = 1) (hev : decide (last < two) = ev) :
    Ct 95 #[.slice A n c, .int .i64 two, .int .i64 ten] (.agg #[.int .u64 (H : Nat), .bool hE, .int .u64 ((if lE = true ∧ ev = true then L else L + 1 : Nat) : Nat), .int .u64 ((if mE = true ∧ ev = false then M - 1 else M : Nat) : Nat)]) w := by
  have W1 := Lib.hid (fun W A1 n1 c1 (h : NV W A1 n1 c1 H) => tword_any h hH)
  have W2 := Lib.hid (fun W A1 n1 c1 (h : NV W A1 n1 c1 L) => tword_any h (by omega))
  have W3 := Lib.hid (fun W A1 n1 c1 (h : NV W A1 n1 c1 M) => tword_any h (by omega))
  have HA := Lib.hid hA
  have HEV := Lib.hid hev
  have l1 : (L : Int) < 9223372036854775808 := by omega
  have l2 : (M : Int) < 9223372036854775808 := by omega
  have l3 : (0 : Int) < (M : Int) := by omega
  clear hA hH hL hM hM0 hev
  obtain ⟨hbt, hl, rfl⟩ := hb
  all_goals
    first | have tb : ((bt : Int) == 1) = false := by rw [beq_eq_false_iff_ne]; omega
          | have tb : ((bt : Int) == 1) = true := by rw [beq_iff_eq]; omega
    clear hbt
    have HA := Lib.hid (HA.out.step (show Below w.heap.size w (w.alloc (.cells zq 91)) from (Below.refl _ _).alloc (Nat.le_refl _) _))
    have B0 := Lib.hid (show Below w.heap.size w (w.alloc (.cells zq 91)) from (Below.refl _ _).alloc (Nat.le_refl _) _)
    have R0 := Lib.hid (show Rv (w.alloc (.cells zq 91)) w.heap.size zq from heap_alloc_last w _)
    have S0 := Lib.hid (show w.heap.size < (w.alloc (.cells zq 91)).heap.size from by simp)
    unfold zq at HA B0 R0 S0
    go_enter Tryz.func95, Tryz.ntmps95
    go_wp2_with fail
    generalize w.alloc (.cells #[.int .u64 0, .bool false, .int .u64 0, .int .u64 0] 91) = w0 at *
    refine (C1.out _ HA.out).mono ?_
    rintro e w' ⟨rfl, rfl⟩
    go_wp2_with fail
    refine (C2.out _ HA.out).mono ?_
    rintro e w1 ⟨A1, n1, c1, rfl, g1, b1⟩
    have G1 := Lib.hid g1
    have G0 := Lib.hid (HA.out.step b1)
    have B1 := Lib.hid (b1)
    clear g1 b1 hmax k1 k2 k3 k4
    go_wp2_with fail
    refine (C1.out _ G0.out).mono ?_
    rintro e w' ⟨rfl, rfl⟩
    go_wp2_with fail
    refine (C3.out _).mono ?_
    rintro e w2 ⟨A2, n2, c2, rfl, g2, b2⟩
    have G2 := Lib.hid g2
    have G1 := Lib.hid (G1.out.step b2)
    have B2 := Lib.hid (below_le B1.out b2)
    clear g2 b2
    go_wp2_with fail
    refine (C4.out _ _ _ _ _ _ _ G1.out G2.out).mono ?_
    rintro e w3 ⟨A3, n3, c3, rfl, g3, b3⟩
    have G3 := Lib.hid g3
    have G1 := Lib.hid (G1.out.step b3)
    have B3 := Lib.hid (below_le B2.out b3)
    clear g3 b3
    go_wp2_with fail
    refine (C5.out _).mono ?_
    rintro e w4 ⟨A4, n4, c4, rfl, g4, b4⟩
    have G4 := Lib.hid g4
    have G1 := Lib.hid (G1.out.step b4)
    have G3 := Lib.hid (G3.out.step b4)
    have B4 := Lib.hid (below_le B3.out b4)
    clear g4 b4
    go_wp2_with fail
    refine (C6.out _ _ _ _ _ _ _ G1.out G4.out).mono ?_
    rintro e w5 ⟨A5, n5, c5, rfl, g5, b5⟩
    have G5 := Lib.hid g5
    have G1 := Lib.hid (G1.out.step b5)
    have G3 := Lib.hid (G3.out.step b5)
    have B5 := Lib.hid (below_le B4.out b5)
    clear g5 b5
    go_wp2_with fail
    refine (S1.out _ _ _ _ G1.out).mono ?_
    rintro e w6 ⟨A6, n6, c6, rfl, g6, b6⟩
    have G6 := Lib.hid g6
    have G5 := Lib.hid (G5.out.step b6)
    have G3 := Lib.hid (G3.out.step b6)
    have B6 := Lib.hid (below_le B5.out b6)
    clear g6 b6
    go_wp2_with fail
    refine (S2.out _ _ _ _ G3.out).mono ?_
    rintro e w7 ⟨A7, n7, c7, rfl, g7, b7⟩
    have G7 := Lib.hid g7
    have G5 := Lib.hid (G5.out.step b7)
    have G6 := Lib.hid (G6.out.step b7)
    have B7 := Lib.hid (below_le B6.out b7)
    clear g7 b7
    go_wp2_with fail
    refine (S3.out _ _ _ _ G5.out).mono ?_
    rintro e w8 ⟨A8, n8, c8, rfl, g8, b8⟩
    have G8 := Lib.hid g8
    have G7 := Lib.hid (G7.out.step b8)
    have G6 := Lib.hid (G6.out.step b8)
    have B8 := Lib.hid (below_le B7.out b8)
    clear g8 b8 C1 C2 C3 C4 C5 C6 S1 S2 S3
    go_wp2_with fail
    refine (W1.out _ _ _ _ G6.out).mono ?_
    rintro e w' ⟨rfl, rfl⟩
    go_wp2_with fail
    refine (W2.out _ _ _ _ G7.out).mono ?_
    rintro e w' ⟨rfl, rfl⟩
    go_wp2_with fail
    refine (W3.out _ _ _ _ G8.out).mono ?_
    rintro e w' ⟨rfl, rfl⟩
    have HG := Lib.hid (fun c' => show (w8.alloc (.cells c' 91)).heap[w.heap.size]? = some (.cells #[.int .u64 0, .bool false, .int .u64 0, .int .u64 0] 91 (0, 0)) from by
      have hlt : w.heap.size < w8.heap.size := Nat.lt_of_lt_of_le S0.out B8.out.size
      have b1 : Below w8.heap.size w8 (w8.alloc (.cells c' 91)) := (Below.refl _ _).alloc (Nat.le_refl _) _
      exact (b1.block _ hlt).trans ((B8.out.block _ S0.out).trans R0.out))
    have HB := Lib.hid (fun c' => show Below w.heap.size w (w8.alloc (.cells c' 91)) from by
      have b2 := below_le B0.out B8.out
      exact b2.alloc b2.size _)
    have he := HEV.out
    have hL1 : IntKind.u64.wrap ((L : Int) + 1) = ((L + 1 : Nat) : Int) := by rw [IntKind.wrap_u64]; omega
    have hM1 : IntKind.u64.wrap ((M : Int) - 1) = ((M - 1 : Nat) : Int) := by rw [IntKind.wrap_u64]; omega
    clear W1 W2 W3 G6 G7 G8 k5 HA HEV
    first | clear hl | skip
    clear tb l1 l2 l3 B0 B1 B2 B3 B4 B5 B6 B7 B8 S0 R0 G1 G5 G3 G0
    cases ev <;> cases lE <;> cases mE
    all_goals
      go_wp2_with (first | (refine wpList_store_row rfl 91 _ _ rfl w.heap.size _ rfl rfl 91 #[.int .u64 0, .bool false, .int .u64 0, .int .u64 0] (HG.out _) (by first | kernel_rfl | rfl) rfl (by first | kernel_rfl | rfl) ?_))
    all_goals
      exact bodyPost_ret (results_cell_one rfl _ _ _ _ _ rfl (run_loadVar_row _ w.heap.size 91 91 _ (0, 0) _ (setRow_heap _ _ _ _ _ _ (HG.out _)) Tryz.underlying91 rfl (by first | kernel_rfl | rfl))) rfl ⟨rfl, below_setRow' (HB.out _) (Nat.le_refl _) _⟩
set_option maxRecDepth 100000 in
set_option maxHeartbeats 3000000 in
theorem tspan_more {w : World} {A : Option Addr} {n c m bt bw q H L M : Nat} {two ten x1 x2 last x3 x4 x5 bI : Int} {hE lE mE ev : Bool} (hA : NV w A n c m)
    (C1 : Hid (∀ W, NV W A n c m → Cq 156 #[.slice A n c] (.int .i64 (bt : Nat)) W))
    (C2 : Hid (∀ W, NV W A n c m → Cp 157 #[.slice A n c, .int .i64 x4] W (NOk q W)))
    (C3 : Hid (∀ W, Cp 110 #[.int .u64 bI] W (NRet bw W)))
    (C4 : Hid (∀ W A1 n1 c1 A2 n2 c2, NV W A1 n1 c1 q → NV W A2 n2 c2 bw → Cp 158 #[.slice A1 n1 c1, .slice A2 n2 c2] W (NOk (q - bw) W)))
    (C5 : Hid (∀ W, Cp 110 #[.int .u64 2] W (NRet 2 W)))
    (C6 : Hid (∀ W A1 n1 c1 A2 n2 c2, NV W A1 n1 c1 q → NV W A2 n2 c2 2 → Cp 124 #[.slice A1 n1 c1, .slice A2 n2 c2] W (NOk (q + 2) W)))
    (S1 : Hid (∀ W A1 n1 c1, NV W A1 n1 c1 q → Cp 123 #[.slice A1 n1 c1, .int .i64 x5, .int .i64 ten] W fun e w' => ∃ A3 n3 c3, e = .returned (.tuple #[.slice A3 n3 c3, .bool hE]) ∧ NV w' A3 n3 c3 H ∧ Below W.heap.size W w'))
    (S2 : Hid (∀ W A1 n1 c1, NV W A1 n1 c1 (q - bw) → Cp 123 #[.slice A1 n1 c1, .int .i64 x5, .int .i64 ten] W fun e w' => ∃ A3 n3 c3, e = .returned (.tuple #[.slice A3 n3 c3, .bool lE]) ∧ NV w' A3 n3 c3 L ∧ Below W.heap.size W w'))
    (S3 : Hid (∀ W A1 n1 c1, NV W A1 n1 c1 (q + 2) → Cp 123 #[.slice A1 n1 c1, .int .i64 x5, .int .i64 ten] W fun e w' => ∃ A3 n3 c3, e = .returned (.tuple #[.slice A3 n3 c3, .bool mE]) ∧ NV w' A3 n3 c3 M ∧ Below W.heap.size W w'))
    (hH : H < 18446744073709551616) (hL : L < 9223372036854775808) (hM : M < 9223372036854775808) (hM0 : 0 < M)
    (k1 : wrap64 ((bt : Int) + two) = x1) (k2 : wrap64 (x1 - 53) = x2) (hmax : max x2 (-1074) = last) (k3 : wrap64 (two - last) = x3) (k4 : wrap64 (x3 + 2) = x4) (k5 : wrap64 (last - 2) = x5)
    (hb : bt ≠ 1 ∧ bI = 2) (hev : decide (last < two) = ev) :
    Ct 95 #[.slice A n c, .int .i64 two, .int .i64 ten] (.agg #[.int .u64 (H : Nat), .bool hE, .int .u64 ((if lE = true ∧ ev = true then L else L + 1 : Nat) : Nat), .int .u64 ((if mE = true ∧ ev = false then M - 1 else M : Nat) : Nat)]) w := by
  have W1 := Lib.hid (fun W A1 n1 c1 (h : NV W A1 n1 c1 H) => tword_any h hH)
  have W2 := Lib.hid (fun W A1 n1 c1 (h : NV W A1 n1 c1 L) => tword_any h (by omega))
  have W3 := Lib.hid (fun W A1 n1 c1 (h : NV W A1 n1 c1 M) => tword_any h (by omega))
  have HA := Lib.hid hA
  have HEV := Lib.hid hev
  have l1 : (L : Int) < 9223372036854775808 := by omega
  have l2 : (M : Int) < 9223372036854775808 := by omega
  have l3 : (0 : Int) < (M : Int) := by omega
  clear hA hH hL hM hM0 hev
  obtain ⟨hbt, rfl⟩ := hb
  all_goals
    first | have tb : ((bt : Int) == 1) = false := by rw [beq_eq_false_iff_ne]; omega
          | have tb : ((bt : Int) == 1) = true := by rw [beq_iff_eq]; omega
    clear hbt
    have HA := Lib.hid (HA.out.step (show Below w.heap.size w (w.alloc (.cells zq 91)) from (Below.refl _ _).alloc (Nat.le_refl _) _))
    have B0 := Lib.hid (show Below w.heap.size w (w.alloc (.cells zq 91)) from (Below.refl _ _).alloc (Nat.le_refl _) _)
    have R0 := Lib.hid (show Rv (w.alloc (.cells zq 91)) w.heap.size zq from heap_alloc_last w _)
    have S0 := Lib.hid (show w.heap.size < (w.alloc (.cells zq 91)).heap.size from by simp)
    unfold zq at HA B0 R0 S0
    go_enter Tryz.func95, Tryz.ntmps95
    go_wp2_with fail
    generalize w.alloc (.cells #[.int .u64 0, .bool false, .int .u64 0, .int .u64 0] 91) = w0 at *
    refine (C1.out _ HA.out).mono ?_
    rintro e w' ⟨rfl, rfl⟩
    go_wp2_with fail
    refine (C2.out _ HA.out).mono ?_
    rintro e w1 ⟨A1, n1, c1, rfl, g1, b1⟩
    have G1 := Lib.hid g1
    have G0 := Lib.hid (HA.out.step b1)
    have B1 := Lib.hid (b1)
    clear g1 b1 hmax k1 k2 k3 k4
    go_wp2_with fail
    refine (C1.out _ G0.out).mono ?_
    rintro e w' ⟨rfl, rfl⟩
    go_wp2_with fail
    refine (C3.out _).mono ?_
    rintro e w2 ⟨A2, n2, c2, rfl, g2, b2⟩
    have G2 := Lib.hid g2
    have G1 := Lib.hid (G1.out.step b2)
    have B2 := Lib.hid (below_le B1.out b2)
    clear g2 b2
    go_wp2_with fail
    refine (C4.out _ _ _ _ _ _ _ G1.out G2.out).mono ?_
    rintro e w3 ⟨A3, n3, c3, rfl, g3, b3⟩
    have G3 := Lib.hid g3
    have G1 := Lib.hid (G1.out.step b3)
    have B3 := Lib.hid (below_le B2.out b3)
    clear g3 b3
    go_wp2_with fail
    refine (C5.out _).mono ?_
    rintro e w4 ⟨A4, n4, c4, rfl, g4, b4⟩
    have G4 := Lib.hid g4
    have G1 := Lib.hid (G1.out.step b4)
    have G3 := Lib.hid (G3.out.step b4)
    have B4 := Lib.hid (below_le B3.out b4)
    clear g4 b4
    go_wp2_with fail
    refine (C6.out _ _ _ _ _ _ _ G1.out G4.out).mono ?_
    rintro e w5 ⟨A5, n5, c5, rfl, g5, b5⟩
    have G5 := Lib.hid g5
    have G1 := Lib.hid (G1.out.step b5)
    have G3 := Lib.hid (G3.out.step b5)
    have B5 := Lib.hid (below_le B4.out b5)
    clear g5 b5
    go_wp2_with fail
    refine (S1.out _ _ _ _ G1.out).mono ?_
    rintro e w6 ⟨A6, n6, c6, rfl, g6, b6⟩
    have G6 := Lib.hid g6
    have G5 := Lib.hid (G5.out.step b6)
    have G3 := Lib.hid (G3.out.step b6)
    have B6 := Lib.hid (below_le B5.out b6)
    clear g6 b6
    go_wp2_with fail
    refine (S2.out _ _ _ _ G3.out).mono ?_
    rintro e w7 ⟨A7, n7, c7, rfl, g7, b7⟩
    have G7 := Lib.hid g7
    have G5 := Lib.hid (G5.out.step b7)
    have G6 := Lib.hid (G6.out.step b7)
    have B7 := Lib.hid (below_le B6.out b7)
    clear g7 b7
    go_wp2_with fail
    refine (S3.out _ _ _ _ G5.out).mono ?_
    rintro e w8 ⟨A8, n8, c8, rfl, g8, b8⟩
    have G8 := Lib.hid g8
    have G7 := Lib.hid (G7.out.step b8)
    have G6 := Lib.hid (G6.out.step b8)
    have B8 := Lib.hid (below_le B7.out b8)
    clear g8 b8 C1 C2 C3 C4 C5 C6 S1 S2 S3
    go_wp2_with fail
    refine (W1.out _ _ _ _ G6.out).mono ?_
    rintro e w' ⟨rfl, rfl⟩
    go_wp2_with fail
    refine (W2.out _ _ _ _ G7.out).mono ?_
    rintro e w' ⟨rfl, rfl⟩
    go_wp2_with fail
    refine (W3.out _ _ _ _ G8.out).mono ?_
    rintro e w' ⟨rfl, rfl⟩
    have HG := Lib.hid (fun c' => show (w8.alloc (.cells c' 91)).heap[w.heap.size]? = some (.cells #[.int .u64 0, .bool false, .int .u64 0, .int .u64 0] 91 (0, 0)) from by
      have hlt : w.heap.size < w8.heap.size := Nat.lt_of_lt_of_le S0.out B8.out.size
      have b1 : Below w8.heap.size w8 (w8.alloc (.cells c' 91)) := (Below.refl _ _).alloc (Nat.le_refl _) _
      exact (b1.block _ hlt).trans ((B8.out.block _ S0.out).trans R0.out))
    have HB := Lib.hid (fun c' => show Below w.heap.size w (w8.alloc (.cells c' 91)) from by
      have b2 := below_le B0.out B8.out
      exact b2.alloc b2.size _)
    have he := HEV.out
    have hL1 : IntKind.u64.wrap ((L : Int) + 1) = ((L + 1 : Nat) : Int) := by rw [IntKind.wrap_u64]; omega
    have hM1 : IntKind.u64.wrap ((M : Int) - 1) = ((M - 1 : Nat) : Int) := by rw [IntKind.wrap_u64]; omega
    clear W1 W2 W3 G6 G7 G8 k5 HA HEV
    first | clear hl | skip
    clear tb l1 l2 l3 B0 B1 B2 B3 B4 B5 B6 B7 B8 S0 R0 G1 G5 G3 G0
    cases ev <;> cases lE <;> cases mE
    all_goals
      go_wp2_with (first | (refine wpList_store_row rfl 91 _ _ rfl w.heap.size _ rfl rfl 91 #[.int .u64 0, .bool false, .int .u64 0, .int .u64 0] (HG.out _) (by first | kernel_rfl | rfl) rfl (by first | kernel_rfl | rfl) ?_))
    all_goals
      exact bodyPost_ret (results_cell_one rfl _ _ _ _ _ rfl (run_loadVar_row _ w.heap.size 91 91 _ (0, 0) _ (setRow_heap _ _ _ _ _ _ (HG.out _)) Tryz.underlying91 rfl (by first | kernel_rfl | rfl))) rfl ⟨rfl, below_setRow' (HB.out _) (Nat.le_refl _) _⟩

end Go.Proofs.YtfcpkdafkmohkaaGreatDoor
namespace Go.Proofs.YtfcpkdafkmohkaaGreatDoor
open Go.RowKit
set_option maxRecDepth 100000 in
set_option maxHeartbeats 3000000 in
theorem tspan_low {w : World} {A : Option Addr} {n c m bt bw q H L M : Nat} {two ten x1 x2 last x3 x4 x5 bI : Int} {hE lE mE ev : Bool} (hA : NV w A n c m)
    (C1 : Hid (∀ W, NV W A n c m → Cq 156 #[.slice A n c] (.int .i64 (bt : Nat)) W))
    (C2 : Hid (∀ W, NV W A n c m → Cp 157 #[.slice A n c, .int .i64 x4] W (NOk q W)))
    (C3 : Hid (∀ W, Cp 110 #[.int .u64 bI] W (NRet bw W)))
    (C4 : Hid (∀ W A1 n1 c1 A2 n2 c2, NV W A1 n1 c1 q → NV W A2 n2 c2 bw → Cp 158 #[.slice A1 n1 c1, .slice A2 n2 c2] W (NOk (q - bw) W)))
    (C5 : Hid (∀ W, Cp 110 #[.int .u64 2] W (NRet 2 W)))
    (C6 : Hid (∀ W A1 n1 c1 A2 n2 c2, NV W A1 n1 c1 q → NV W A2 n2 c2 2 → Cp 124 #[.slice A1 n1 c1, .slice A2 n2 c2] W (NOk (q + 2) W)))
    (S1 : Hid (∀ W A1 n1 c1, NV W A1 n1 c1 q → Cp 123 #[.slice A1 n1 c1, .int .i64 x5, .int .i64 ten] W fun e w' => ∃ A3 n3 c3, e = .returned (.tuple #[.slice A3 n3 c3, .bool hE]) ∧ NV w' A3 n3 c3 H ∧ Below W.heap.size W w'))
    (S2 : Hid (∀ W A1 n1 c1, NV W A1 n1 c1 (q - bw) → Cp 123 #[.slice A1 n1 c1, .int .i64 x5, .int .i64 ten] W fun e w' => ∃ A3 n3 c3, e = .returned (.tuple #[.slice A3 n3 c3, .bool lE]) ∧ NV w' A3 n3 c3 L ∧ Below W.heap.size W w'))
    (S3 : Hid (∀ W A1 n1 c1, NV W A1 n1 c1 (q + 2) → Cp 123 #[.slice A1 n1 c1, .int .i64 x5, .int .i64 ten] W fun e w' => ∃ A3 n3 c3, e = .returned (.tuple #[.slice A3 n3 c3, .bool mE]) ∧ NV w' A3 n3 c3 M ∧ Below W.heap.size W w'))
    (hH : H < 18446744073709551616) (hL : L < 9223372036854775808) (hM : M < 9223372036854775808) (hM0 : 0 < M)
    (k1 : wrap64 ((bt : Int) + two) = x1) (k2 : wrap64 (x1 - 53) = x2) (hmax : max x2 (-1074) = last) (k3 : wrap64 (two - last) = x3) (k4 : wrap64 (x3 + 2) = x4) (k5 : wrap64 (last - 2) = x5)
    (hb : bt = 1 ∧ decide (-1074 < last) = false ∧ bI = 2) (hev : decide (last < two) = ev) :
    Ct 95 #[.slice A n c, .int .i64 two, .int .i64 ten] (.agg #[.int .u64 (H : Nat), .bool hE, .int .u64 ((if lE = true ∧ ev = true then L else L + 1 : Nat) : Nat), .int .u64 ((if mE = true ∧ ev = false then M - 1 else M : Nat) : Nat)]) w := by
  have W1 := Lib.hid (fun W A1 n1 c1 (h : NV W A1 n1 c1 H) => tword_any h hH)
  have W2 := Lib.hid (fun W A1 n1 c1 (h : NV W A1 n1 c1 L) => tword_any h (by omega))
  have W3 := Lib.hid (fun W A1 n1 c1 (h : NV W A1 n1 c1 M) => tword_any h (by omega))
  have HA := Lib.hid hA
  have HEV := Lib.hid hev
  have l1 : (L : Int) < 9223372036854775808 := by omega
  have l2 : (M : Int) < 9223372036854775808 := by omega
  have l3 : (0 : Int) < (M : Int) := by omega
  clear hA hH hL hM hM0 hev
  obtain ⟨hbt, hl, rfl⟩ := hb
  all_goals
    first | have tb : ((bt : Int) == 1) = false := by rw [beq_eq_false_iff_ne]; omega
          | have tb : ((bt : Int) == 1) = true := by rw [beq_iff_eq]; omega
    clear hbt
    have HA := Lib.hid (HA.out.step (show Below w.heap.size w (w.alloc (.cells zq 91)) from (Below.refl _ _).alloc (Nat.le_refl _) _))
    have B0 := Lib.hid (show Below w.heap.size w (w.alloc (.cells zq 91)) from (Below.refl _ _).alloc (Nat.le_refl _) _)
    have R0 := Lib.hid (show Rv (w.alloc (.cells zq 91)) w.heap.size zq from heap_alloc_last w _)
    have S0 := Lib.hid (show w.heap.size < (w.alloc (.cells zq 91)).heap.size from by simp)
    unfold zq at HA B0 R0 S0
    go_enter Tryz.func95, Tryz.ntmps95
    go_wp2_with fail
    generalize w.alloc (.cells #[.int .u64 0, .bool false, .int .u64 0, .int .u64 0] 91) = w0 at *
    refine (C1.out _ HA.out).mono ?_
    rintro e w' ⟨rfl, rfl⟩
    go_wp2_with fail
    refine (C2.out _ HA.out).mono ?_
    rintro e w1 ⟨A1, n1, c1, rfl, g1, b1⟩
    have G1 := Lib.hid g1
    have G0 := Lib.hid (HA.out.step b1)
    have B1 := Lib.hid (b1)
    clear g1 b1 hmax k1 k2 k3 k4
    go_wp2_with fail
    refine (C1.out _ G0.out).mono ?_
    rintro e w' ⟨rfl, rfl⟩
    go_wp2_with fail
    refine (C3.out _).mono ?_
    rintro e w2 ⟨A2, n2, c2, rfl, g2, b2⟩
    have G2 := Lib.hid g2
    have G1 := Lib.hid (G1.out.step b2)
    have B2 := Lib.hid (below_le B1.out b2)
    clear g2 b2
    go_wp2_with fail
    refine (C4.out _ _ _ _ _ _ _ G1.out G2.out).mono ?_
    rintro e w3 ⟨A3, n3, c3, rfl, g3, b3⟩
    have G3 := Lib.hid g3
    have G1 := Lib.hid (G1.out.step b3)
    have B3 := Lib.hid (below_le B2.out b3)
    clear g3 b3
    go_wp2_with fail
    refine (C5.out _).mono ?_
    rintro e w4 ⟨A4, n4, c4, rfl, g4, b4⟩
    have G4 := Lib.hid g4
    have G1 := Lib.hid (G1.out.step b4)
    have G3 := Lib.hid (G3.out.step b4)
    have B4 := Lib.hid (below_le B3.out b4)
    clear g4 b4
    go_wp2_with fail
    refine (C6.out _ _ _ _ _ _ _ G1.out G4.out).mono ?_
    rintro e w5 ⟨A5, n5, c5, rfl, g5, b5⟩
    have G5 := Lib.hid g5
    have G1 := Lib.hid (G1.out.step b5)
    have G3 := Lib.hid (G3.out.step b5)
    have B5 := Lib.hid (below_le B4.out b5)
    clear g5 b5
    go_wp2_with fail
    refine (S1.out _ _ _ _ G1.out).mono ?_
    rintro e w6 ⟨A6, n6, c6, rfl, g6, b6⟩
    have G6 := Lib.hid g6
    have G5 := Lib.hid (G5.out.step b6)
    have G3 := Lib.hid (G3.out.step b6)
    have B6 := Lib.hid (below_le B5.out b6)
    clear g6 b6
    go_wp2_with fail
    refine (S2.out _ _ _ _ G3.out).mono ?_
    rintro e w7 ⟨A7, n7, c7, rfl, g7, b7⟩
    have G7 := Lib.hid g7
    have G5 := Lib.hid (G5.out.step b7)
    have G6 := Lib.hid (G6.out.step b7)
    have B7 := Lib.hid (below_le B6.out b7)
    clear g7 b7
    go_wp2_with fail
    refine (S3.out _ _ _ _ G5.out).mono ?_
    rintro e w8 ⟨A8, n8, c8, rfl, g8, b8⟩
    have G8 := Lib.hid g8
    have G7 := Lib.hid (G7.out.step b8)
    have G6 := Lib.hid (G6.out.step b8)
    have B8 := Lib.hid (below_le B7.out b8)
    clear g8 b8 C1 C2 C3 C4 C5 C6 S1 S2 S3
    go_wp2_with fail
    refine (W1.out _ _ _ _ G6.out).mono ?_
    rintro e w' ⟨rfl, rfl⟩
    go_wp2_with fail
    refine (W2.out _ _ _ _ G7.out).mono ?_
    rintro e w' ⟨rfl, rfl⟩
    go_wp2_with fail
    refine (W3.out _ _ _ _ G8.out).mono ?_
    rintro e w' ⟨rfl, rfl⟩
    have HG := Lib.hid (fun c' => show (w8.alloc (.cells c' 91)).heap[w.heap.size]? = some (.cells #[.int .u64 0, .bool false, .int .u64 0, .int .u64 0] 91 (0, 0)) from by
      have hlt : w.heap.size < w8.heap.size := Nat.lt_of_lt_of_le S0.out B8.out.size
      have b1 : Below w8.heap.size w8 (w8.alloc (.cells c' 91)) := (Below.refl _ _).alloc (Nat.le_refl _) _
      exact (b1.block _ hlt).trans ((B8.out.block _ S0.out).trans R0.out))
    have HB := Lib.hid (fun c' => show Below w.heap.size w (w8.alloc (.cells c' 91)) from by
      have b2 := below_le B0.out B8.out
      exact b2.alloc b2.size _)
    have he := HEV.out
    have hL1 : IntKind.u64.wrap ((L : Int) + 1) = ((L + 1 : Nat) : Int) := by rw [IntKind.wrap_u64]; omega
    have hM1 : IntKind.u64.wrap ((M : Int) - 1) = ((M - 1 : Nat) : Int) := by rw [IntKind.wrap_u64]; omega
    clear W1 W2 W3 G6 G7 G8 k5 HA HEV
    first | clear hl | skip
    clear tb l1 l2 l3 B0 B1 B2 B3 B4 B5 B6 B7 B8 S0 R0 G1 G5 G3 G0
    cases ev <;> cases lE <;> cases mE
    all_goals
      go_wp2_with (first | (refine wpList_store_row rfl 91 _ _ rfl w.heap.size _ rfl rfl 91 #[.int .u64 0, .bool false, .int .u64 0, .int .u64 0] (HG.out _) (by first | kernel_rfl | rfl) rfl (by first | kernel_rfl | rfl) ?_))
    all_goals
      exact bodyPost_ret (results_cell_one rfl _ _ _ _ _ rfl (run_loadVar_row _ w.heap.size 91 91 _ (0, 0) _ (setRow_heap _ _ _ _ _ _ (HG.out _)) Tryz.underlying91 rfl (by first | kernel_rfl | rfl))) rfl ⟨rfl, below_setRow' (HB.out _) (Nat.le_refl _) _⟩

end Go.Proofs.YtfcpkdafkmohkaaGreatDoor
namespace Go.Proofs.YtfcpkdafkmohkaaGreatDoor
open Go.RowKit
theorem tscaled_as {W : World} {A : Option Addr} {n c N V x y : Nat} {two ten : Int} (hA : NV W A n c N) (hm : bln N ≤ 2000) (h1 : -1000 ≤ ten) (h2 : ten ≤ 1000) (h3 : -3000 ≤ two) (h4 : two ≤ 3000)
  (hq : scA N two ten / scB two ten = V) (hb : scA N two ten % scB two ten = 0 ↔ x % y = 0) :
  Cp 123 #[.slice A n c, .int .i64 two, .int .i64 ten] W fun e w' => ∃ A3 n3 c3, e = .returned (.tuple #[.slice A3 n3 c3, .bool (decide (x % y = 0))]) ∧ NV w' A3 n3 c3 V ∧ Below W.heap.size W w' := by
 refine (tscaled_any two ten hA hm h1 h2 h3 h4).mono ?_
 rintro e w' ⟨A3, n3, c3, rfl, hv, hw⟩
 rw [hq] at hv
 rw [decide_eq_decide.2 hb]
 exact ⟨A3, n3, c3, rfl, hv, hw⟩
def SpanQ (r : Nat) (n : Int) (w : World) (e : Ending) (w' : World) : Prop :=
 ∃ M : Nat, e = .returned (.agg #[.int .u64 ((vU r (18 - n) / vV (18 - n) : Nat) : Int), .bool (decide (vU r (18 - n) % vV (18 - n) = 0)), .int .u64 ((leastOf (vV (18 - n)) (10 ^ ((18 : Int) - n).toNat) r : Nat) : Int), .int .u64 (M : Nat)]) ∧
  (∀ c, c ≤ M ↔ mostLe (vV (18 - n)) (10 ^ ((18 : Int) - n).toNat) r c) ∧ Below w.heap.size w w'
set_option maxHeartbeats 1000000 in
theorem tspan_any {w : World} {A : Option Addr} {n0 c0 r m : Nat} {two n : Int} (hA : NV w A n0 c0 m) (hp : PartIs r m two) (h0 : 0 < r) (hpt : PointAt (fmag r) big n) (hn1 : -345 ≤ n) (hn2 : n ≤ 335) :
  Cp 95 #[.slice A n0 c0, .int .i64 two, .int .i64 (18 - n)] w (SpanQ r n w) := by
 obtain ⟨q1, q2, q3, q4, q5, q6⟩ := hp.pos
 obtain ⟨c, D, k, h1, h2, h3, h4, h5, h6, h7, h8⟩ := hp
 obtain ⟨s, hs⟩ : ∃ s, (18 : Int) - n = s := ⟨_, rfl⟩
 have hbc := bln_shift (k := k) q1
 rw [← h4] at hbc
 have hc0 : 0 < c := by rw [h4]; exact Nat.mul_pos q1 (two_pos k)
 obtain ⟨b1, b2, b3⟩ := bln_bounds hc0
 have hb53 : bln c ≤ 53 := bln_le (by omega)
 have hb53' : 4503599627370496 ≤ c → bln c = 53 := by
  intro h
  exact bln_of (L := 52) (by omega) (by omega)
 -- the ends, in quarters
 obtain ⟨e1, e2⟩ := quarters h1 h2 h3 h0
 have hHc := here_cross (s := s) (K := 1074) rfl h1 h2 h3 h4
 have hp2 : m * 2 ^ (k + 2) = 4 * c := by rw [h4, Nat.pow_add]; grind
 have hMc := end_cross (N := 4 * c + 2) (S := fmag r + fmag (r + 1)) (s := s) (K := 1074) rfl e1
 obtain ⟨bw, hbw⟩ : ∃ bw, (if c = 4503599627370496 ∧ 0 < D then 1 else 2) = bw := ⟨_, rfl⟩
 rw [hbw] at e2
 have hLc := end_cross (N := 4 * c - bw) (S := fmag (r - 1) + fmag r) (s := s) (K := 1074) rfl e2
 have hvV := vV_pos s
 have hsc := scB_pos ((D : Int) - 1076) s
 have H1 := (quot_cross hsc hvV hHc).1
 have H2 := rest_cross hsc hvV hHc
 have M1 := (quot_cross hsc (by omega) hMc).1
 have M2 := rest_cross hsc (by omega) hMc
 have L1 := (quot_cross hsc (by omega) hLc).1
 have L2 := rest_cross hsc (by omega) hLc
 have hH := (here_lt hpt).1
 have hM := most_lt h0 hpt
 have hL := least_lt h0 hpt
 unfold SpanQ
 rw [hs] at hH hM hL ⊢
 have hbw2 : bw ≤ 2 := by rw [← hbw]; split <;> omega
 rw [hp2] at H1 H2
 -- how many bits
 have bl4 : bln (4 * c + 2) ≤ 100 := bln_le (by omega)
 have bl4' : bln (4 * c) ≤ 100 := bln_le (by omega)
 have bl4'' : bln (4 * c - bw) ≤ 100 := bln_le (by omega)
 have S1 := Lib.hid (fun W A1 n1 c1 (h : NV W A1 n1 c1 (4 * c)) => tscaled_as (two := (D : Int) - 1076) (ten := s) h (by omega) (by omega) (by omega) (by omega) (by omega) H1 H2)
 have S2 := Lib.hid (fun W A1 n1 c1 (h : NV W A1 n1 c1 (4 * c - bw)) => tscaled_as (two := (D : Int) - 1076) (ten := s) h (by omega) (by omega) (by omega) (by omega) (by omega) L1 L2)
 have S3 := Lib.hid (fun W A1 n1 c1 (h : NV W A1 n1 c1 (4 * c + 2)) => tscaled_as (two := (D : Int) - 1076) (ten := s) h (by omega) (by omega) (by omega) (by omega) (by omega) M1 M2)
 have C1 := Lib.hid (fun W (h : NV W A n0 c0 m) => nbits h (by omega))
 have C2 := Lib.hid (fun W (h : NV W A n0 c0 m) => nshl h (k + 2) (by omega))
 rw [hp2] at C2
 have C4 := Lib.hid (fun W A1 n1 c1 A2 n2 c2 (h : NV W A1 n1 c1 (4 * c)) (g : NV W A2 n2 c2 bw) => nsub h g (by omega) (by omega))
 have C5 := Lib.hid (fun W => nof 2 (by omega) W)
 have C6 := Lib.hid (fun W A1 n1 c1 A2 n2 c2 (h : NV W A1 n1 c1 (4 * c)) (g : NV W A2 n2 c2 2) => nadd h g (by omega))
 have hev : decide (((D : Int) - 1074) < two) = decide (r % 2 = 0) := by
  refine decide_eq_decide.2 ?_
  rcases Nat.eq_zero_or_pos k with hk | hk
  ·rw [hk, Nat.pow_zero, Nat.mul_one] at h4
   omega
  ·obtain ⟨j, rfl⟩ : ∃ j, k = j + 1 := ⟨k - 1, by omega⟩
   rw [Nat.pow_succ, ← Nat.mul_assoc] at h4
   omega
 have hmax : max ((bln m : Int) + two - 53) (-1074) = (D : Int) - 1074 := by
  rcases Nat.eq_zero_or_pos D with hD | hD
  ·omega
  ·have := hb53' (by omega)
   omega
 have hpow : bln m = 1 → c = 2 ^ k := by
  intro h
  obtain ⟨u1, u2, _⟩ := bln_bounds q1
  rw [h] at u1 u2
  simp at u1 u2
  have : m = 1 := by omega
  rw [h4, this, Nat.one_mul]
 have fin : ∀ (e : Ending) (w' : World), (e = .returned (.agg #[.int .u64 ((vU r s / vV s : Nat) : Int), .bool (decide (vU r s % vV s = 0)), .int .u64 ((if decide ((fmag (r - 1) + fmag r) * 10 ^ s.toNat % (2 * vV s) = 0) = true ∧ decide (r % 2 = 0) = true then (fmag (r - 1) + fmag r) * 10 ^ s.toNat / (2 * vV s) else (fmag (r - 1) + fmag r) * 10 ^ s.toNat / (2 * vV s) + 1 : Nat) : Int), .int .u64 ((if decide ((fmag r + fmag (r + 1)) * 10 ^ s.toNat % (2 * vV s) = 0) = true ∧ decide (r % 2 = 0) = false then (fmag r + fmag (r + 1)) * 10 ^ s.toNat / (2 * vV s) - 1 else (fmag r + fmag (r + 1)) * 10 ^ s.toNat / (2 * vV s) : Nat) : Int)]) ∧ Below w.heap.size w w') → ∃ M : Nat, e = .returned (.agg #[.int .u64 ((vU r s / vV s : Nat) : Int), .bool (decide (vU r s % vV s = 0)), .int .u64 ((leastOf (vV s) (10 ^ s.toNat) r : Nat) : Int), .int .u64 (M : Nat)]) ∧ (∀ c, c ≤ M ↔ mostLe (vV s) (10 ^ s.toNat) r c) ∧ Below w.heap.size w w' := by
  rintro e w' ⟨he, hw⟩
  have hle : (if decide ((fmag (r - 1) + fmag r) * 10 ^ s.toNat % (2 * vV s) = 0) = true ∧ decide (r % 2 = 0) = true then (fmag (r - 1) + fmag r) * 10 ^ s.toNat / (2 * vV s) else (fmag (r - 1) + fmag r) * 10 ^ s.toNat / (2 * vV s) + 1) = leastOf (vV s) (10 ^ s.toNat) r := by
   unfold leastOf
   by_cases g : (fmag (r - 1) + fmag r) * 10 ^ s.toNat % (2 * vV s) = 0 <;> by_cases g2 : r % 2 = 0 <;> simp [g, g2]
  rw [hle] at he
  refine ⟨(if decide ((fmag r + fmag (r + 1)) * 10 ^ s.toNat % (2 * vV s) = 0) = true ∧ decide (r % 2 = 0) = false then (fmag r + fmag (r + 1)) * 10 ^ s.toNat / (2 * vV s) - 1 else (fmag r + fmag (r + 1)) * 10 ^ s.toNat / (2 * vV s)), he, ?_, hw⟩
  ·intro c
   unfold mostLe
   have := hM.2
   by_cases g : (fmag r + fmag (r + 1)) * 10 ^ s.toNat % (2 * vV s) = 0 <;> by_cases g2 : r % 2 = 0 <;> simp [g, g2] <;> omega
 rcases Nat.decEq (bln m) 1 with hb | hb
 ·have hbw' : bw = 2 := by
   rw [← hbw, if_neg]
   rintro ⟨g1, g2⟩
   apply hb
   have hb2 : bln c = 53 := by rw [g1]; exact bln_of (L := 52) (by omega) (by omega)
   have hk : k = 52 := by
    rcases Nat.lt_or_ge k 52 with h | h
    ·exfalso
     obtain ⟨d, hd⟩ : ∃ d, 52 = k + (d + 1) := ⟨52 - k - 1, by omega⟩
     have : m * 2 ^ k = 2 ^ (d + 1) * 2 ^ k := by rw [← h4, g1, ← Nat.pow_add, Nat.add_comm, ← hd]
     have := Nat.eq_of_mul_eq_mul_right (two_pos k) this
     rw [Nat.pow_succ] at this
     omega
    ·omega
   omega
  subst hbw'
  have C3 := Lib.hid (fun W => nof 2 (by omega) W)
  refine (tspan_more (bI := 2) (x4 := ((k + 2 : Nat) : Int)) (x5 := (D : Int) - 1076) (last := (D : Int) - 1074) (x1 := (bln m : Int) + two) (x2 := (bln m : Int) + two - 53) (x3 := (k : Int)) (two := two) (ten := s) hA C1 C2 C3 C4 C5 C6 S1 S2 S3 (by omega) (by omega) (by omega) hM.2 (by unfold wrap64; omega) (by unfold wrap64; omega) hmax (by unfold wrap64; omega) (by unfold wrap64; omega) (by unfold wrap64; omega) ⟨hb, rfl⟩ hev).mono ?_
  exact fin
 ·have hc2 := hpow hb
  rcases Nat.eq_zero_or_pos D with hD | hD
  ·have hbw' : bw = 2 := by
    rw [← hbw, if_neg]
    omega
   subst hbw'
   have C3 := Lib.hid (fun W => nof 2 (by omega) W)
   refine (tspan_low (bI := 2) (x4 := ((k + 2 : Nat) : Int)) (x5 := (D : Int) - 1076) (last := (D : Int) - 1074) (x1 := (bln m : Int) + two) (x2 := (bln m : Int) + two - 53) (x3 := (k : Int)) (two := two) (ten := s) hA C1 C2 C3 C4 C5 C6 S1 S2 S3 (by omega) (by omega) (by omega) hM.2 (by unfold wrap64; omega) (by unfold wrap64; omega) hmax (by unfold wrap64; omega) (by unfold wrap64; omega) (by unfold wrap64; omega) ⟨hb, decide_eq_false (by omega), rfl⟩ hev).mono ?_
   exact fin
  ·have hbw' : bw = 1 := by
    have := hb53' (by omega)
    have hk : k = 52 := by omega
    rw [← hbw, if_pos]
    rw [hk] at hc2
    omega
   subst hbw'
   have C3 := Lib.hid (fun W => nof 1 (by omega) W)
   refine (tspan_one (bI := 1) (x4 := ((k + 2 : Nat) : Int)) (x5 := (D : Int) - 1076) (last := (D : Int) - 1074) (x1 := (bln m : Int) + two) (x2 := (bln m : Int) + two - 53) (x3 := (k : Int)) (two := two) (ten := s) hA C1 C2 C3 C4 C5 C6 S1 S2 S3 (by omega) (by omega) (by omega) hM.2 (by unfold wrap64; omega) (by unfold wrap64; omega) hmax (by unfold wrap64; omega) (by unfold wrap64; omega) (by unfold wrap64; omega) ⟨hb, by omega, rfl⟩ hev).mono ?_
   exact fin

end Go.Proofs.YtfcpkdafkmohkaaGreatDoor
namespace Go.Proofs.YtfcpkdafkmohkaaGreatDoor
open Go.RowKit
theorem fbad_pos {x : Nat} (h0 : 0 < x) (hx : x < 9218868437227405312) : rung x = x ∧ fbad x = false := by
 have h1 : rung x = x := by unfold rung; omega
 have h2 : fneg x = false := by unfold fneg; rw [show x / 9223372036854775808 % 2 = 0 by omega]; rfl
 refine ⟨h1, ?_⟩
 unfold fbad fnan finf
 rw [h1, h2, decide_eq_false (by omega), decide_eq_false (by omega)]
 rfl
theorem parts_is {x k m : Nat} (h0 : 0 < x) (hx : x < 9218868437227405312) (h : fwhole x = 2 ^ (k + 1) * m + 2 ^ k) : PartIs x (2 * m + 1) (fpow x + (k : Nat)) := by
 obtain ⟨p1, p2⟩ := fwhole_pos h0
 have hk : k ≤ 52 := by
  have h1 : 2 ^ k < 2 ^ 53 := by omega
  have := (Nat.pow_lt_pow_iff_right (by omega)).1 h1
  omega
 have hc : fwhole x = (2 * m + 1) * 2 ^ k := by
  rw [h, Nat.pow_succ]
  grind
 by_cases hq : x / 4503599627370496 = 0
 ·refine ⟨fwhole x, 0, k, ?_, p2, .inl rfl, hc, ?_, by omega, by omega, hk⟩
  ·unfold fwhole
   rw [if_pos hq]
   omega
  ·unfold fpow
   rw [if_pos hq]
   omega
 ·refine ⟨fwhole x, x / 4503599627370496 - 1, k, ?_, p2, .inr ?_, hc, ?_, by omega, by omega, hk⟩
  ·unfold fwhole
   rw [if_neg hq]
   omega
  ·unfold fwhole
   rw [if_neg hq]
   omega
  ·unfold fpow
   rw [if_neg hq]
   omega
def PartsQ (x : Nat) (w : World) (e : Ending) (w' : World) : Prop := ∃ m two A n c, e = .returned (.tuple #[.slice A n c, .int .i64 two, .int .i64 0]) ∧ NV w' A n c m ∧ PartIs x m two ∧ Below w.heap.size w w'
theorem PartsP.q {x : Nat} {w w' : World} {e : Ending} (h0 : 0 < x) (hx : x < 9218868437227405312) (h : PartsP x w e w') : PartsQ x w e w' := by
 obtain ⟨k, m, A, n, c, h1, rfl, ⟨h2, h3, h4⟩, h5⟩ := h
 exact ⟨2 * m + 1, _, A, n, c, rfl, ⟨h2.symm, h3, h4⟩, parts_is h0 hx h1, h5⟩
theorem pparts_pos (x : Nat) (w : World) (h0 : 0 < x) (hx : x < 9218868437227405312) (ht : TzTab w) : Cp 54 #[.float .f64 x] w (PartsQ x w) := by
 obtain ⟨h1, h2⟩ := fbad_pos h0 hx
 exact (pparts_ok x w (by omega) h2 (by omega) ht).mono fun e w' h => h.q h0 hx
set_option maxRecDepth 100000 in
set_option maxHeartbeats 1000000 in
theorem tshort_whole (x N : Nat) (w : World) (D : ByteArray) (p : Int)
  (t1 : (FloatKind.f64.format.order x 4845873199050653696 == some .lt) = true)
  (hc : ∀ W : World, (convert 22 71 (.float .f64 x)).run Tryz.prog W = .ok (.int .u64 (N : Int)) W)
  (t2 : (FloatKind.f64.format.order x (floatOfInt FloatKind.f64 (N : Int)) == some .eq) = true)
  (C5 : Hid (∀ W, W = w → Ct 93 #[.int .u64 N, .int .i64 0] (.tuple #[.string D, .int .i64 p]) W)) :
  Ct 40 #[.float .f64 x] (.tuple #[.string D, .int .i64 p]) w := by
 go_enter Tryz.func40, Tryz.ntmps40
 go_wp2_with fail
 refine (C5.out _ rfl).mono ?_
 rintro e w1 ⟨rfl, b1⟩
 go_wp2
 go_ret2
 exact ⟨rfl, b1⟩
def CandQ (r : Nat) (n : Int) (k : Nat) (w : World) (e : Ending) (w' : World) : Prop := ∃ (v : Nat) (b : Bool), e = .returned (.tuple #[.int .u64 (v : Int), .bool b]) ∧ (b = true → ∃ c, cnd r n k = some c ∧ v = c * 10 ^ (18 - k)) ∧ (b = false → cnd r n k = none) ∧ Below w.heap.size w w'
def ShortQ (r : Nat) (w : World) (e : Ending) (w' : World) : Prop := ∃ L p, e = .returned (.tuple #[.string (strOf L), .int .i64 p]) ∧ SQ r L p ∧ Below w.heap.size w w'
def UnitAt (r : Nat) (n : Int) (u : Int) (k : Nat) : Prop := 1 ≤ k ∧ k ≤ 17 ∧ u = ((10 ^ (18 - k) : Nat) : Int) ∧ ∀ j, 1 ≤ j → j < k → cnd r n j = none
theorem UnitAt.next {r k : Nat} {n u : Int} (h : UnitAt r n u k) (hn : cnd r n k = none) (h17 : cnd r n 17 ≠ none) : UnitAt r n (IntKind.u64.wrap (u / 10)) (k + 1) ∧ (IntKind.u64.wrap (u / 10)) = u / 10 := by
 obtain ⟨h1, h2, rfl, h4⟩ := h
 have hk : k ≠ 17 := fun h => h17 (h ▸ hn)
 obtain ⟨i, hi⟩ : ∃ i, 18 - k = i + 1 := ⟨17 - k, by omega⟩
 have e1 : ((10 ^ (18 - k) : Nat) : Int) / 10 = ((10 ^ (18 - (k + 1)) : Nat) : Int) := by
  rw [hi, show 18 - (k + 1) = i by omega, Nat.pow_succ]
  omega
 have hle : 10 ^ (18 - (k + 1)) ≤ 10 ^ 18 := Nat.pow_le_pow_right (by omega) (by omega)
 have e2 : IntKind.u64.wrap (((10 ^ (18 - k) : Nat) : Int) / 10) = ((10 ^ (18 - k) : Nat) : Int) / 10 := by
  rw [e1, IntKind.wrap_u64]
  generalize 10 ^ (18 - (k + 1)) = b at *
  omega
 refine ⟨⟨by omega, by omega, by rw [e2, e1], ?_⟩, e2⟩
 intro j hj1 hj2
 rcases Nat.lt_or_ge j k with h | h
 ·exact h4 j hj1 h
 ·rw [show j = k by omega]
  exact hn
theorem UnitAt.bd {r k : Nat} {n u : Int} (h : UnitAt r n u k) : 0 < u ∧ u ≤ 100000000000000000 := by
 obtain ⟨h1, h2, rfl, h4⟩ := h
 have hle : 10 ^ (18 - k) ≤ 10 ^ 17 := Nat.pow_le_pow_right (by omega) (by omega)
 have := ten_pos (18 - k)
 omega
set_option maxRecDepth 100000 in
set_option maxHeartbeats 2000000 in
theorem tshort_frac (x N : Nat) (n s18 m18 : Int) (w : World) (HH LL : Nat) (ex : Bool) (PM : Nat → Prop)
  (t1 : (FloatKind.f64.format.order x 4845873199050653696 == some .lt) = true)
  (hc : ∀ W : World, (convert 22 71 (.float .f64 x)).run Tryz.prog W = .ok (.int .u64 (N : Int)) W)
  (t2 : (FloatKind.f64.format.order x (floatOfInt FloatKind.f64 (N : Int)) == some .eq) = false)
  (h17 : Hid (cnd x n 17 ≠ none)) (k1 : wrap64 (18 - n) = s18) (k2 : wrap64 (n - 18) = m18)
  (C1 : Hid (∀ W, W = w → Cp 54 #[.float .f64 x] W (PartsQ x W)))
  (C2 : Hid (∀ W A c0 n0 m two, NV W A n0 c0 m → PartIs x m two → Ct 94 #[.slice A n0 c0, .int .i64 two] (.int .i64 n) W))
  (C3 : Hid (∀ W A c0 n0 m two, NV W A n0 c0 m → PartIs x m two → Cp 95 #[.slice A n0 c0, .int .i64 two, .int .i64 s18] W fun e w' => ∃ M : Nat, e = .returned (.agg #[.int .u64 (HH : Nat), .bool ex, .int .u64 (LL : Nat), .int .u64 M]) ∧ PM M ∧ Below W.heap.size W w'))
  (C4 : Hid (∀ W M u k, PM M → UnitAt x n u k → Cp 96 #[.agg #[.int .u64 (HH : Nat), .bool ex, .int .u64 (LL : Nat), .int .u64 M], .int .u64 u] W (CandQ x n k W)))
  (C5 : Hid (∀ W u k c, Below w.heap.size w W → UnitAt x n u k → cnd x n k = some c → Cp 93 #[.int .u64 ((c * 10 ^ (18 - k) : Nat) : Int), .int .i64 m18] W (ShortQ x W))) :
  Cp 40 #[.float .f64 x] w (ShortQ x w) := by
 go_enter Tryz.func40, Tryz.ntmps40
 go_wp2_with fail
 refine (C1.out _ rfl).mono ?_
 rintro e w1 ⟨m, two, A, n0, c0, rfl, g1, hp, b1⟩
 have G1 := Lib.hid g1
 have HP := Lib.hid hp
 have B1 := Lib.hid b1
 clear g1 hp b1
 go_wp2_with fail
 refine (C2.out _ _ _ _ _ _ G1.out HP.out).mono ?_
 rintro e w2 ⟨rfl, b2⟩
 have G2 := Lib.hid (G1.out.step b2)
 have B2 := Lib.hid (below_le B1.out b2)
 clear b2
 go_wp2_with fail
 refine (C3.out _ _ _ _ _ _ G2.out HP.out).mono ?_
 rintro e w3 ⟨M, rfl, hM, b3⟩
 have HM := Lib.hid hM
 have B3 := Lib.hid (below_le B2.out b3)
 clear b3 hM
 go_wp2_with fail
 have B4 := Lib.hid (alloc_below (.cells #[.int .u64 (HH : Nat), .bool ex, .int .u64 (LL : Nat), .int .u64 M] 91) B3.out)
 have R4 := Lib.hid (show Rv (w3.alloc (.cells #[.int .u64 (HH : Nat), .bool ex, .int .u64 (LL : Nat), .int .u64 M] 91)) w3.heap.size #[.int .u64 (HH : Nat), .bool ex, .int .u64 (LL : Nat), .int .u64 M] from heap_alloc_last w3 _)
 have S4 := Lib.hid (show w3.heap.size < (w3.alloc (.cells #[.int .u64 (HH : Nat), .bool ex, .int .u64 (LL : Nat), .int .u64 M] 91)).heap.size from by simp)
 have N4 := Lib.hid (show UnitAt x n 100000000000000000 1 from ⟨by omega, by omega, rfl, fun j h1 h2 => by omega⟩)
 obtain ⟨gb, hgb⟩ : ∃ gb, w3.heap.size = gb := ⟨_, rfl⟩
 rw [hgb] at R4 S4 ⊢
 clear hgb
 generalize w3.alloc (.cells #[.int .u64 (HH : Nat), .bool ex, .int .u64 (LL : Nat), .int .u64 M] 91) = w4 at *
 go_loopw [9] (fun u wr => ∃ (v : Int) (k : Nat), u = .int .u64 v ∧ Hid (UnitAt x n v k) ∧ Hid (Rv wr gb #[.int .u64 (HH : Nat), .bool ex, .int .u64 (LL : Nat), .int .u64 M]) ∧ Hid (Below w.heap.size w wr) ∧ Hid (gb < wr.heap.size)) (fun u _ => (intOf u).toNat)
 case atStart => exact ⟨_, 1, rfl, N4, R4, B4, S4⟩
 case round =>
  obtain ⟨v, k, rfl, NK, R5, B5, S5⟩ := hrel
  obtain ⟨v0, v1⟩ := NK.out.bd
  have d0 : wr.cell? ⟨gb, 0, none⟩ = some (.int .u64 (HH : Nat)) := cell_of_row wr gb 0 _ 91 (0, 0) R5.out
  have d1 : wr.cell? ⟨gb, 1, none⟩ = some (.bool ex) := cell_of_row wr gb 1 _ 91 (0, 0) R5.out
  have d2 : wr.cell? ⟨gb, 2, none⟩ = some (.int .u64 (LL : Nat)) := cell_of_row wr gb 2 _ 91 (0, 0) R5.out
  have d3 : wr.cell? ⟨gb, 3, none⟩ = some (.int .u64 M) := cell_of_row wr gb 3 _ 91 (0, 0) R5.out
  go_wp2_with fail
  refine (C4.out _ _ _ _ HM.out NK.out).mono ?_
  rintro e w6 ⟨v', b, rfl, hb1, hb0, b6⟩
  have HB1 := Lib.hid hb1
  have HB0 := Lib.hid hb0
  have B6 := Lib.hid (below_le B5.out b6)
  have R6 := Lib.hid (show Rv w6 gb _ from (b6.block _ S5.out).trans R5.out)
  have S6 := Lib.hid (Nat.lt_of_lt_of_le S5.out b6.size)
  clear hb1 hb0 b6 d0 d1 d2 d3
  cases b
  ·have hn := HB0.out rfl
   obtain ⟨u1, u2⟩ := NK.out.next hn h17.out
   rw [u2] at u1
   have NN := Lib.hid u1
   clear hn u1 u2
   go_wp2
   go_roundw
   case rel => exact ⟨_, k + 1, rfl, NN, R6, B6, S6⟩
   case measure => simp [intOf]; omega
  ·obtain ⟨c, hc, rfl⟩ := HB1.out rfl
   have HC := Lib.hid hc
   clear hc
   go_wp2_with fail
   refine (C5.out _ _ _ _ B6.out NK.out HC.out).mono ?_
   rintro e w7 ⟨L, p, rfl, hq, b7⟩
   have HQ := Lib.hid hq
   have B7 := Lib.hid (below_le B6.out b7)
   clear hq b7
   go_wp2
   go_ret2
   exact ⟨L, p, rfl, HQ.out, B7.out⟩
set_option maxRecDepth 100000 in
set_option maxHeartbeats 2000000 in
theorem tshort_high (x : Nat) (n s18 m18 : Int) (w : World) (HH LL : Nat) (ex : Bool) (PM : Nat → Prop)
  (t1 : (FloatKind.f64.format.order x 4845873199050653696 == some .lt) = false)
  (h17 : Hid (cnd x n 17 ≠ none)) (k1 : wrap64 (18 - n) = s18) (k2 : wrap64 (n - 18) = m18)
  (C1 : Hid (∀ W, W = w → Cp 54 #[.float .f64 x] W (PartsQ x W)))
  (C2 : Hid (∀ W A c0 n0 m two, NV W A n0 c0 m → PartIs x m two → Ct 94 #[.slice A n0 c0, .int .i64 two] (.int .i64 n) W))
  (C3 : Hid (∀ W A c0 n0 m two, NV W A n0 c0 m → PartIs x m two → Cp 95 #[.slice A n0 c0, .int .i64 two, .int .i64 s18] W fun e w' => ∃ M : Nat, e = .returned (.agg #[.int .u64 (HH : Nat), .bool ex, .int .u64 (LL : Nat), .int .u64 M]) ∧ PM M ∧ Below W.heap.size W w'))
  (C4 : Hid (∀ W M u k, PM M → UnitAt x n u k → Cp 96 #[.agg #[.int .u64 (HH : Nat), .bool ex, .int .u64 (LL : Nat), .int .u64 M], .int .u64 u] W (CandQ x n k W)))
  (C5 : Hid (∀ W u k c, Below w.heap.size w W → UnitAt x n u k → cnd x n k = some c → Cp 93 #[.int .u64 ((c * 10 ^ (18 - k) : Nat) : Int), .int .i64 m18] W (ShortQ x W))) :
  Cp 40 #[.float .f64 x] w (ShortQ x w) := by
 go_enter Tryz.func40, Tryz.ntmps40
 go_wp2_with fail
 refine (C1.out _ rfl).mono ?_
 rintro e w1 ⟨m, two, A, n0, c0, rfl, g1, hp, b1⟩
 have G1 := Lib.hid g1
 have HP := Lib.hid hp
 have B1 := Lib.hid b1
 clear g1 hp b1
 go_wp2_with fail
 refine (C2.out _ _ _ _ _ _ G1.out HP.out).mono ?_
 rintro e w2 ⟨rfl, b2⟩
 have G2 := Lib.hid (G1.out.step b2)
 have B2 := Lib.hid (below_le B1.out b2)
 clear b2
 go_wp2_with fail
 refine (C3.out _ _ _ _ _ _ G2.out HP.out).mono ?_
 rintro e w3 ⟨M, rfl, hM, b3⟩
 have HM := Lib.hid hM
 have B3 := Lib.hid (below_le B2.out b3)
 clear b3 hM
 go_wp2_with fail
 have B4 := Lib.hid (alloc_below (.cells #[.int .u64 (HH : Nat), .bool ex, .int .u64 (LL : Nat), .int .u64 M] 91) B3.out)
 have R4 := Lib.hid (show Rv (w3.alloc (.cells #[.int .u64 (HH : Nat), .bool ex, .int .u64 (LL : Nat), .int .u64 M] 91)) w3.heap.size #[.int .u64 (HH : Nat), .bool ex, .int .u64 (LL : Nat), .int .u64 M] from heap_alloc_last w3 _)
 have S4 := Lib.hid (show w3.heap.size < (w3.alloc (.cells #[.int .u64 (HH : Nat), .bool ex, .int .u64 (LL : Nat), .int .u64 M] 91)).heap.size from by simp)
 have N4 := Lib.hid (show UnitAt x n 100000000000000000 1 from ⟨by omega, by omega, rfl, fun j h1 h2 => by omega⟩)
 obtain ⟨gb, hgb⟩ : ∃ gb, w3.heap.size = gb := ⟨_, rfl⟩
 rw [hgb] at R4 S4 ⊢
 clear hgb
 generalize w3.alloc (.cells #[.int .u64 (HH : Nat), .bool ex, .int .u64 (LL : Nat), .int .u64 M] 91) = w4 at *
 go_loopw [9] (fun u wr => ∃ (v : Int) (k : Nat), u = .int .u64 v ∧ Hid (UnitAt x n v k) ∧ Hid (Rv wr gb #[.int .u64 (HH : Nat), .bool ex, .int .u64 (LL : Nat), .int .u64 M]) ∧ Hid (Below w.heap.size w wr) ∧ Hid (gb < wr.heap.size)) (fun u _ => (intOf u).toNat)
 case atStart => exact ⟨_, 1, rfl, N4, R4, B4, S4⟩
 case round =>
  obtain ⟨v, k, rfl, NK, R5, B5, S5⟩ := hrel
  obtain ⟨v0, v1⟩ := NK.out.bd
  have d0 : wr.cell? ⟨gb, 0, none⟩ = some (.int .u64 (HH : Nat)) := cell_of_row wr gb 0 _ 91 (0, 0) R5.out
  have d1 : wr.cell? ⟨gb, 1, none⟩ = some (.bool ex) := cell_of_row wr gb 1 _ 91 (0, 0) R5.out
  have d2 : wr.cell? ⟨gb, 2, none⟩ = some (.int .u64 (LL : Nat)) := cell_of_row wr gb 2 _ 91 (0, 0) R5.out
  have d3 : wr.cell? ⟨gb, 3, none⟩ = some (.int .u64 M) := cell_of_row wr gb 3 _ 91 (0, 0) R5.out
  go_wp2_with fail
  refine (C4.out _ _ _ _ HM.out NK.out).mono ?_
  rintro e w6 ⟨v', b, rfl, hb1, hb0, b6⟩
  have HB1 := Lib.hid hb1
  have HB0 := Lib.hid hb0
  have B6 := Lib.hid (below_le B5.out b6)
  have R6 := Lib.hid (show Rv w6 gb _ from (b6.block _ S5.out).trans R5.out)
  have S6 := Lib.hid (Nat.lt_of_lt_of_le S5.out b6.size)
  clear hb1 hb0 b6 d0 d1 d2 d3
  cases b
  ·have hn := HB0.out rfl
   obtain ⟨u1, u2⟩ := NK.out.next hn h17.out
   rw [u2] at u1
   have NN := Lib.hid u1
   clear hn u1 u2
   go_wp2
   go_roundw
   case rel => exact ⟨_, k + 1, rfl, NN, R6, B6, S6⟩
   case measure => simp [intOf]; omega
  ·obtain ⟨c, hc, rfl⟩ := HB1.out rfl
   have HC := Lib.hid hc
   clear hc
   go_wp2_with fail
   refine (C5.out _ _ _ _ B6.out NK.out HC.out).mono ?_
   rintro e w7 ⟨L, p, rfl, hq, b7⟩
   have HQ := Lib.hid hq
   have B7 := Lib.hid (below_le B6.out b7)
   clear hq b7
   go_wp2
   go_ret2
   exact ⟨L, p, rfl, HQ.out, B7.out⟩

end Go.Proofs.YtfcpkdafkmohkaaGreatDoor
namespace Go.Proofs.YtfcpkdafkmohkaaGreatDoor
open Go.RowKit
theorem point_ex {r m : Nat} {two : Int} (h : PartIs r m two) : ∃ p : Int, PointAt (fmag r) big p ∧ -345 ≤ p ∧ p ≤ 335 := by
 obtain ⟨q1, q2, q3, q4, q5, q6⟩ := h.pos
 have hx := vcross h
 obtain ⟨u1, u2, u3⟩ := bln_bounds q1
 obtain ⟨k, hk⟩ : ∃ k, bln m = k + 1 := ⟨bln m - 1, by omega⟩
 rw [hk] at u1 u2 q2 q3 q4
 rw [Nat.add_sub_cancel] at u1
 obtain ⟨e, he⟩ : ∃ e, (k : Int) + two = e := ⟨_, rfl⟩
 obtain ⟨l1, l2⟩ := lead_at u1 u2 he
 obtain ⟨p1, p2⟩ := point_lg (u := m * 2 ^ two.toNat) (v := 2 ^ (-two).toNat) (e := e) (two_pos _) (by omega) (by omega) l1 l2
 obtain ⟨n1, hn1⟩ : ∃ n1, lg2 e + 1 = n1 := ⟨_, rfl⟩
 have b1 : -345 ≤ n1 ∧ n1 ≤ 333 := by unfold lg2 at hn1; omega
 rw [hn1] at p1 p2
 rw [show lg2 e + 2 = n1 + 1 by omega] at p2
 by_cases hh : le10 n1 (m * 2 ^ two.toNat) (2 ^ (-two).toNat)
 ·exact ⟨n1 + 1, point_cross (two_pos _) big_pos hx (p2 hh), by omega, by omega⟩
 ·exact ⟨n1, point_cross (two_pos _) big_pos hx (p1 hh), by omega, by omega⟩
theorem tpoint_is {w : World} {A : Option Addr} {n0 c0 r m : Nat} {two n : Int} (hA : NV w A n0 c0 m) (h : PartIs r m two) (hp : PointAt (fmag r) big n) :
  Ct 94 #[.slice A n0 c0, .int .i64 two] (.int .i64 n) w := by
 obtain ⟨q1, q2, q3, q4, q5, q6⟩ := h.pos
 obtain ⟨p, p1, p2, p3, hc⟩ := tpoint_any two hA q1 (by omega) (by omega) (by omega)
 have := point_one (point_cross (two_pos _) big_pos (vcross h) p1) hp
 subst this
 exact hc
theorem part_ex {x : Nat} (h0 : 0 < x) (hx : x < 9218868437227405312) : ∃ m two, PartIs x m two := by
 obtain ⟨k, m, h⟩ := odd_part _ (fwhole_pos h0).1
 exact ⟨_, _, parts_is h0 hx h⟩
theorem flo_of (N : Nat) : floatOfInt FloatKind.f64 (N : Int) = fl N := rfl
theorem tz_on {w w' : World} (h : TzTab w) (hb : Below w.heap.size w w') : TzTab w' := by
 intro i hi
 have h1 := h i hi
 have hlt : 1 < w.heap.size := by
  rcases Nat.lt_or_ge 1 w.heap.size with h2 | h2
  ·exact h2
  ·rw [World.cell?, Array.getElem?_eq_none h2] at h1
   cases h1
 rw [hb.cell (p := ⟨1, i, none⟩) hlt]
 exact h1
theorem tshortest_any (x : Nat) (w : World) (h0 : 0 < x) (hx : x < 9218868437227405312) (ht : Tab10 w) (hz : TzTab w) : Cp 40 #[.float .f64 x] w (ShortQ x w) := by
 obtain ⟨m0, two0, hp0⟩ := part_ex h0 hx
 obtain ⟨n, hn, n1, n2⟩ := point_ex hp0
 have h17 := Lib.hid (cnd_ends hn h0 hx)
 obtain ⟨T, hT⟩ : ∃ T, fmag x / big = T := ⟨_, rfl⟩
 have C1 : Hid (∀ W, W = w → Cp 54 #[.float .f64 x] W (PartsQ x W)) := Lib.hid (fun W (h : W = w) => by
  subst h
  exact pparts_pos x W h0 hx hz)
 have C2 := Lib.hid (fun W A c0 n0 m two (h : NV W A n0 c0 m) (hp : PartIs x m two) => tpoint_is h hp hn)
 have C3 : Hid (∀ W A c0 n0 m two, NV W A n0 c0 m → PartIs x m two → Cp 95 #[.slice A n0 c0, .int .i64 two, .int .i64 (18 - n)] W fun e w' => ∃ M : Nat, e = .returned (.agg #[.int .u64 ((vU x (18 - n) / vV (18 - n) : Nat) : Int), .bool (decide (vU x (18 - n) % vV (18 - n) = 0)), .int .u64 ((leastOf (vV (18 - n)) (10 ^ ((18 : Int) - n).toNat) x : Nat) : Int), .int .u64 M]) ∧ (∀ c, c ≤ M ↔ mostLe (vV (18 - n)) (10 ^ ((18 : Int) - n).toNat) x c) ∧ Below W.heap.size W w') :=
  Lib.hid (fun W A c0 n0 m two h hp => tspan_any h hp h0 hn n1 n2)
 obtain ⟨hH, _⟩ := here_lt hn
 have C4 : Hid (∀ W M u k, (∀ c, c ≤ M ↔ mostLe (vV (18 - n)) (10 ^ ((18 : Int) - n).toNat) x c) → UnitAt x n u k → Cp 96 #[.agg #[.int .u64 ((vU x (18 - n) / vV (18 - n) : Nat) : Int), .bool (decide (vU x (18 - n) % vV (18 - n) = 0)), .int .u64 ((leastOf (vV (18 - n)) (10 ^ ((18 : Int) - n).toNat) x : Nat) : Int), .int .u64 M], .int .u64 u] W (CandQ x n k W)) :=
  Lib.hid (fun W M u k hM hu => by
   obtain ⟨b1, b2⟩ := hu.bd
   obtain ⟨k1, k2, rfl, _⟩ := hu
   refine (tcand_any _ _ M (10 ^ (18 - k)) _ W (ten_pos _) (by omega)).mono ?_
   rintro e w' ⟨rfl, hw⟩
   rw [pcn_cnd (k := k) (i := 18 - k) (by omega) (by omega) h0 hx hM]
   unfold candV
   refine ⟨_, _, rfl, ?_, ?_, hw⟩
   ·intro h
    cases hc : cnd x n k with
    | none => rw [hc] at h; cases h
    | some c => exact ⟨c, rfl, rfl⟩
   ·intro h
    cases hc : cnd x n k with
    | none => rfl
    | some c => rw [hc] at h; cases h)
 have C5 : Hid (∀ W u k c, Below w.heap.size w W → UnitAt x n u k → cnd x n k = some c → Cp 93 #[.int .u64 ((c * 10 ^ (18 - k) : Nat) : Int), .int .i64 (n - 18)] W (ShortQ x W)) :=
  Lib.hid (fun W u k c hW hu hc => by
   obtain ⟨k1, k2, _, k4⟩ := hu
   have hl := cnd_last hn k1 k4 hc
   have hlt : c * 10 ^ (18 - k) < 10 ^ 19 := by
    have h10 : c ≤ 10 ^ k := by
     rcases hl with ⟨_, _, h⟩ | ⟨h1, h2⟩
     ·omega
     ·rw [h1, h2]; omega
    have h1 : c * 10 ^ (18 - k) ≤ 10 ^ k * 10 ^ (18 - k) := Nat.mul_le_mul_right _ h10
    rw [← Nat.pow_add, show k + (18 - k) = 18 by omega] at h1
    omega
   refine (ttrimmed_any (c * 10 ^ (18 - k)) (n - 18) W (by omega) (by omega) (by omega) (ht.on hW)).mono ?_
   rintro e w' ⟨rfl, hw⟩
   have hc0 : 0 < c := by
    rcases hl with ⟨h, _⟩ | ⟨_, h⟩ <;> omega
   rw [dL_zeros hc0, trz_rep, List.length_append, List.length_replicate]
   refine ⟨_, _, rfl, ⟨n, k, c, hn, k1, k2, k4, hc, rfl, ?_⟩, hw⟩
   omega)
 rcases Nat.lt_or_ge x 4845873199050653696 with hlt | hge
 ·have hTl := trunc_lt hlt
  rw [hT] at hTl
  have t1 : (FloatKind.f64.format.order x 4845873199050653696 == some .lt) = true := by rw [ord_lt_pos (by omega) (by omega)]; exact decide_eq_true hlt
  have hcv := fun W => conv_u64 hx hT (by omega) W
  have heq := float_whole (x := x) hx hTl
  rw [← flo_of] at heq
  by_cases hw : fmag x = T * big
  ·rw [decide_eq_true hw] at heq
   have hT0 : 0 < T := by
    rcases Nat.eq_zero_or_pos T with h | h
    ·rw [h, Nat.zero_mul] at hw
     have := fmag_pos.2 h0
     omega
    ·exact h
   refine (tshort_whole x T w _ _ t1 hcv heq (Lib.hid fun W h => by
    subst h
    exact ttrimmed_any T 0 W (by omega) (by omega) (by omega) ht)).mono ?_
   rintro e w' ⟨rfl, hb⟩
   refine ⟨_, _, rfl, ?_, hb⟩
   have := sq_whole hT0 hTl hx hw
   rw [Int.add_zero]
   exact this
  ·rw [decide_eq_false hw] at heq
   exact tshort_frac x T n _ _ w _ _ _ _ t1 hcv heq h17 (by unfold wrap64; omega) (by unfold wrap64; omega) C1 C2 C3 C4 C5
 ·have t1 : (FloatKind.f64.format.order x 4845873199050653696 == some .lt) = false := by rw [ord_lt_pos (by omega) (by omega)]; exact decide_eq_false (by omega)
  exact tshort_high x n _ _ w _ _ _ _ t1 h17 (by unfold wrap64; omega) (by unfold wrap64; omega) C1 C2 C3 C4 C5

end Go.Proofs.YtfcpkdafkmohkaaGreatDoor
namespace Go.Proofs.YtfcpkdafkmohkaaGreatDoor
set_option maxRecDepth 100000
open Go.RowKit
set_option maxHeartbeats 1000000 in
theorem tsigned_00nan (x : Nat) (f : FuncId) (F : ByteArray) (w : World) (t0 : (FloatKind.f64.format.order x 0 == some .lt) = false)
  (CN : Hid (∀ W, Cq 34 #[.float .f64 x] (.bool true) W))
  (CW : Hid (∀ W, Ct 41 #[.string ⟨#[78, 97, 78]⟩] (.string F) W)) :
  Ct 43 #[.float .f64 x, .func (Fn.func f) #[] #[]] (.string F) w := by
 go_enter Tryz.func43, Tryz.ntmps43
 go_wp2_with fail
 refine (CN.out _).mono ?_
 rintro e w' ⟨rfl, rfl⟩
 go_wp2_with fail
 refine (CW.out _).mono ?_
 rintro e w2 ⟨rfl, b2⟩
 have B2 := Lib.hid (below_le (Below.refl _ _) b2)
 clear b2
 go_wp2
 go_ret
 exact ⟨rfl, B2.out⟩
set_option maxHeartbeats 1000000 in
theorem tsigned_00inf (x : Nat) (f : FuncId) (F : ByteArray) (w : World) (t0 : (FloatKind.f64.format.order x 0 == some .lt) = false)
  (CN : Hid (∀ W, Cq 34 #[.float .f64 x] (.bool false) W))
  (CI : Hid (∀ W, Cq 36 #[.float .f64 x, .int .i64 0] (.bool true) W))
  (CW : Hid (∀ W, Ct 41 #[.string ⟨#[73, 110, 102, 105, 110, 105, 116, 121]⟩] (.string F) W)) :
  Ct 43 #[.float .f64 x, .func (Fn.func f) #[] #[]] (.string F) w := by
 go_enter Tryz.func43, Tryz.ntmps43
 go_wp2_with fail
 refine (CN.out _).mono ?_
 rintro e w' ⟨rfl, rfl⟩
 go_wp2_with fail
 refine (CI.out _).mono ?_
 rintro e w' ⟨rfl, rfl⟩
 go_wp2_with fail
 refine (CW.out _).mono ?_
 rintro e w2 ⟨rfl, b2⟩
 have B2 := Lib.hid (below_le (Below.refl _ _) b2)
 clear b2
 go_wp2
 go_ret
 exact ⟨rfl, B2.out⟩
set_option maxHeartbeats 1000000 in
theorem tsigned_00fin (x : Nat) (f : FuncId) (R S : ByteArray) (r : Nat) (F : ByteArray) (w : World) (t0 : (FloatKind.f64.format.order x 0 == some .lt) = false)
  (CN : Hid (∀ W, Cq 34 #[.float .f64 x] (.bool false) W))
  (CI : Hid (∀ W, Cq 36 #[.float .f64 x, .int .i64 0] (.bool false) W))
  (CA : Hid (∀ W, Cq 52 #[.float .f64 x] (.float .f64 r) W))
  (he : ∀ args (W : World), (callFunc f args).run Tryz.prog W = .ok (.enter f args) W)
  (CT : Hid (∀ W, W = w → Ct f #[.float .f64 r] (.string R) W))
  (hR : Hid (R.size ≤ 1000000)) (hS : ⟨#[]⟩ ++ R = S)
  (CW : Hid (∀ W, Ct 41 #[.string S] (.string F) W)) :
  Ct 43 #[.float .f64 x, .func (Fn.func f) #[] #[]] (.string F) w := by
 have g1 : ¬ 9223372036854775807 < R.size := by have := hR.out; omega
 go_enter Tryz.func43, Tryz.ntmps43
 go_wp2_with fail
 refine (CN.out _).mono ?_
 rintro e w' ⟨rfl, rfl⟩
 go_wp2_with fail
 refine (CI.out _).mono ?_
 rintro e w' ⟨rfl, rfl⟩
 go_wp2_with fail
 refine (CA.out _).mono ?_
 rintro e w' ⟨rfl, rfl⟩
 go_wp2_with fail
 refine (CT.out _ rfl).mono ?_
 rintro e w1 ⟨rfl, b1⟩
 have B1 := Lib.hid b1
 clear b1
 go_wp2_with fail
 refine (CW.out _).mono ?_
 rintro e w2 ⟨rfl, b2⟩
 have B2 := Lib.hid (below_le B1.out b2)
 clear b2
 go_wp2
 go_ret
 exact ⟨rfl, B2.out⟩
set_option maxHeartbeats 1000000 in
theorem tsigned_01inf (x : Nat) (f : FuncId) (F : ByteArray) (w : World) (t0 : (FloatKind.f64.format.order x 0 == some .lt) = true)
  (CN : Hid (∀ W, Cq 34 #[.float .f64 x] (.bool false) W))
  (CI : Hid (∀ W, Cq 36 #[.float .f64 x, .int .i64 0] (.bool true) W))
  (CW : Hid (∀ W, Ct 41 #[.string ⟨#[45, 73, 110, 102, 105, 110, 105, 116, 121]⟩] (.string F) W)) :
  Ct 43 #[.float .f64 x, .func (Fn.func f) #[] #[]] (.string F) w := by
 go_enter Tryz.func43, Tryz.ntmps43
 go_wp2_with fail
 refine (CN.out _).mono ?_
 rintro e w' ⟨rfl, rfl⟩
 go_wp2_with fail
 refine (CI.out _).mono ?_
 rintro e w' ⟨rfl, rfl⟩
 go_wp2_with fail
 refine (CW.out _).mono ?_
 rintro e w2 ⟨rfl, b2⟩
 have B2 := Lib.hid (below_le (Below.refl _ _) b2)
 clear b2
 go_wp2
 go_ret
 exact ⟨rfl, B2.out⟩
set_option maxHeartbeats 1000000 in
theorem tsigned_01fin (x : Nat) (f : FuncId) (R S : ByteArray) (r : Nat) (F : ByteArray) (w : World) (t0 : (FloatKind.f64.format.order x 0 == some .lt) = true)
  (CN : Hid (∀ W, Cq 34 #[.float .f64 x] (.bool false) W))
  (CI : Hid (∀ W, Cq 36 #[.float .f64 x, .int .i64 0] (.bool false) W))
  (CA : Hid (∀ W, Cq 52 #[.float .f64 x] (.float .f64 r) W))
  (he : ∀ args (W : World), (callFunc f args).run Tryz.prog W = .ok (.enter f args) W)
  (CT : Hid (∀ W, W = w → Ct f #[.float .f64 r] (.string R) W))
  (hR : Hid (R.size ≤ 1000000)) (hS : ⟨#[45]⟩ ++ R = S)
  (CW : Hid (∀ W, Ct 41 #[.string S] (.string F) W)) :
  Ct 43 #[.float .f64 x, .func (Fn.func f) #[] #[]] (.string F) w := by
 have g1 : ¬ 9223372036854775807 < 1 + R.size := by have := hR.out; omega
 go_enter Tryz.func43, Tryz.ntmps43
 go_wp2_with fail
 refine (CN.out _).mono ?_
 rintro e w' ⟨rfl, rfl⟩
 go_wp2_with fail
 refine (CI.out _).mono ?_
 rintro e w' ⟨rfl, rfl⟩
 go_wp2_with fail
 refine (CA.out _).mono ?_
 rintro e w' ⟨rfl, rfl⟩
 go_wp2_with fail
 refine (CT.out _ rfl).mono ?_
 rintro e w1 ⟨rfl, b1⟩
 have B1 := Lib.hid b1
 clear b1
 go_wp2_with fail
 refine (CW.out _).mono ?_
 rintro e w2 ⟨rfl, b2⟩
 have B2 := Lib.hid (below_le B1.out b2)
 clear b2
 go_wp2
 go_ret
 exact ⟨rfl, B2.out⟩
set_option maxHeartbeats 1000000 in
theorem tsigned_10nan (x : Nat) (f : FuncId) (pb : Addr) (F : ByteArray) (w : World) (t0 : (FloatKind.f64.format.order x 0 == some .lt) = false)
  (CN : Hid (∀ W, Cq 34 #[.float .f64 x] (.bool true) W))
  (CW : Hid (∀ W, Ct 41 #[.string ⟨#[78, 97, 78]⟩] (.string F) W)) :
  Ct 43 #[.float .f64 x, .func (Fn.func f) #[] #[.pointer (some pb)]] (.string F) w := by
 go_enter Tryz.func43, Tryz.ntmps43
 go_wp2_with fail
 refine (CN.out _).mono ?_
 rintro e w' ⟨rfl, rfl⟩
 go_wp2_with fail
 refine (CW.out _).mono ?_
 rintro e w2 ⟨rfl, b2⟩
 have B2 := Lib.hid (below_le (Below.refl _ _) b2)
 clear b2
 go_wp2
 go_ret
 exact ⟨rfl, B2.out⟩
set_option maxHeartbeats 1000000 in
theorem tsigned_10inf (x : Nat) (f : FuncId) (pb : Addr) (F : ByteArray) (w : World) (t0 : (FloatKind.f64.format.order x 0 == some .lt) = false)
  (CN : Hid (∀ W, Cq 34 #[.float .f64 x] (.bool false) W))
  (CI : Hid (∀ W, Cq 36 #[.float .f64 x, .int .i64 0] (.bool true) W))
  (CW : Hid (∀ W, Ct 41 #[.string ⟨#[73, 110, 102, 105, 110, 105, 116, 121]⟩] (.string F) W)) :
  Ct 43 #[.float .f64 x, .func (Fn.func f) #[] #[.pointer (some pb)]] (.string F) w := by
 go_enter Tryz.func43, Tryz.ntmps43
 go_wp2_with fail
 refine (CN.out _).mono ?_
 rintro e w' ⟨rfl, rfl⟩
 go_wp2_with fail
 refine (CI.out _).mono ?_
 rintro e w' ⟨rfl, rfl⟩
 go_wp2_with fail
 refine (CW.out _).mono ?_
 rintro e w2 ⟨rfl, b2⟩
 have B2 := Lib.hid (below_le (Below.refl _ _) b2)
 clear b2
 go_wp2
 go_ret
 exact ⟨rfl, B2.out⟩
set_option maxHeartbeats 1000000 in
theorem tsigned_10fin (x : Nat) (f : FuncId) (pb : Addr) (R S : ByteArray) (r : Nat) (F : ByteArray) (w : World) (t0 : (FloatKind.f64.format.order x 0 == some .lt) = false)
  (CN : Hid (∀ W, Cq 34 #[.float .f64 x] (.bool false) W))
  (CI : Hid (∀ W, Cq 36 #[.float .f64 x, .int .i64 0] (.bool false) W))
  (CA : Hid (∀ W, Cq 52 #[.float .f64 x] (.float .f64 r) W))
  (he : ∀ args (W : World), (callFunc f args).run Tryz.prog W = .ok (.enter f args) W)
  (CT : Hid (∀ W, W = w → Ct f #[.float .f64 r, .pointer (some pb)] (.string R) W))
  (hR : Hid (R.size ≤ 1000000)) (hS : ⟨#[]⟩ ++ R = S)
  (CW : Hid (∀ W, Ct 41 #[.string S] (.string F) W)) :
  Ct 43 #[.float .f64 x, .func (Fn.func f) #[] #[.pointer (some pb)]] (.string F) w := by
 have g1 : ¬ 9223372036854775807 < R.size := by have := hR.out; omega
 go_enter Tryz.func43, Tryz.ntmps43
 go_wp2_with fail
 refine (CN.out _).mono ?_
 rintro e w' ⟨rfl, rfl⟩
 go_wp2_with fail
 refine (CI.out _).mono ?_
 rintro e w' ⟨rfl, rfl⟩
 go_wp2_with fail
 refine (CA.out _).mono ?_
 rintro e w' ⟨rfl, rfl⟩
 go_wp2_with fail
 refine (CT.out _ rfl).mono ?_
 rintro e w1 ⟨rfl, b1⟩
 have B1 := Lib.hid b1
 clear b1
 go_wp2_with fail
 refine (CW.out _).mono ?_
 rintro e w2 ⟨rfl, b2⟩
 have B2 := Lib.hid (below_le B1.out b2)
 clear b2
 go_wp2
 go_ret
 exact ⟨rfl, B2.out⟩
set_option maxHeartbeats 1000000 in
theorem tsigned_11inf (x : Nat) (f : FuncId) (pb : Addr) (F : ByteArray) (w : World) (t0 : (FloatKind.f64.format.order x 0 == some .lt) = true)
  (CN : Hid (∀ W, Cq 34 #[.float .f64 x] (.bool false) W))
  (CI : Hid (∀ W, Cq 36 #[.float .f64 x, .int .i64 0] (.bool true) W))
  (CW : Hid (∀ W, Ct 41 #[.string ⟨#[45, 73, 110, 102, 105, 110, 105, 116, 121]⟩] (.string F) W)) :
  Ct 43 #[.float .f64 x, .func (Fn.func f) #[] #[.pointer (some pb)]] (.string F) w := by
 go_enter Tryz.func43, Tryz.ntmps43
 go_wp2_with fail
 refine (CN.out _).mono ?_
 rintro e w' ⟨rfl, rfl⟩
 go_wp2_with fail
 refine (CI.out _).mono ?_
 rintro e w' ⟨rfl, rfl⟩
 go_wp2_with fail
 refine (CW.out _).mono ?_
 rintro e w2 ⟨rfl, b2⟩
 have B2 := Lib.hid (below_le (Below.refl _ _) b2)
 clear b2
 go_wp2
 go_ret
 exact ⟨rfl, B2.out⟩
set_option maxHeartbeats 1000000 in
theorem tsigned_11fin (x : Nat) (f : FuncId) (pb : Addr) (R S : ByteArray) (r : Nat) (F : ByteArray) (w : World) (t0 : (FloatKind.f64.format.order x 0 == some .lt) = true)
  (CN : Hid (∀ W, Cq 34 #[.float .f64 x] (.bool false) W))
  (CI : Hid (∀ W, Cq 36 #[.float .f64 x, .int .i64 0] (.bool false) W))
  (CA : Hid (∀ W, Cq 52 #[.float .f64 x] (.float .f64 r) W))
  (he : ∀ args (W : World), (callFunc f args).run Tryz.prog W = .ok (.enter f args) W)
  (CT : Hid (∀ W, W = w → Ct f #[.float .f64 r, .pointer (some pb)] (.string R) W))
  (hR : Hid (R.size ≤ 1000000)) (hS : ⟨#[45]⟩ ++ R = S)
  (CW : Hid (∀ W, Ct 41 #[.string S] (.string F) W)) :
  Ct 43 #[.float .f64 x, .func (Fn.func f) #[] #[.pointer (some pb)]] (.string F) w := by
 have g1 : ¬ 9223372036854775807 < 1 + R.size := by have := hR.out; omega
 go_enter Tryz.func43, Tryz.ntmps43
 go_wp2_with fail
 refine (CN.out _).mono ?_
 rintro e w' ⟨rfl, rfl⟩
 go_wp2_with fail
 refine (CI.out _).mono ?_
 rintro e w' ⟨rfl, rfl⟩
 go_wp2_with fail
 refine (CA.out _).mono ?_
 rintro e w' ⟨rfl, rfl⟩
 go_wp2_with fail
 refine (CT.out _ rfl).mono ?_
 rintro e w1 ⟨rfl, b1⟩
 have B1 := Lib.hid b1
 clear b1
 go_wp2_with fail
 refine (CW.out _).mono ?_
 rintro e w2 ⟨rfl, b2⟩
 have B2 := Lib.hid (below_le B1.out b2)
 clear b2
 go_wp2
 go_ret
 exact ⟨rfl, B2.out⟩

end Go.Proofs.YtfcpkdafkmohkaaGreatDoor
namespace Go.Proofs.YtfcpkdafkmohkaaGreatDoor
open Go.RowKit
set_option maxRecDepth 100000 in
theorem tplain_zero (x : Nat) (w : World) (t0 : (FloatKind.f64.format.order x 0 == some .eq) = true) : Cq 44 #[.float .f64 x] (.string ⟨#[48]⟩) w := by
 go_enter Tryz.func44, Tryz.ntmps44
 go_wp2
 go_ret
 exact ⟨rfl, rfl⟩
set_option maxRecDepth 100000 in
set_option maxHeartbeats 1000000 in
theorem tplain_low (x : Nat) (N : Int) (S F : ByteArray) (w : World) (t0 : (FloatKind.f64.format.order x 0 == some .eq) = false) (b1 : -1000 ≤ N) (b2 : N ≤ 1000) (h1 : N ≤ -6)
  (CS : Hid (∀ W, Below w.heap.size w W → Ct 59 #[.string S, .int .i64 (N - 1)] (.string F) W))
  (C : Hid (∀ W, W = w → Ct 40 #[.float .f64 x] (.tuple #[.string S, .int .i64 N]) W)) :
  Ct 44 #[.float .f64 x] (.string F) w := by
 go_enter Tryz.func44, Tryz.ntmps44
 go_wp2_with fail
 refine (C.out _ rfl).mono ?_
 rintro e w1 ⟨rfl, b1'⟩
 have B1 := Lib.hid b1'
 clear b1'
 go_wp2_with fail
 refine (CS.out _ B1.out).mono ?_
 rintro e w2 ⟨rfl, b2'⟩
 have B2 := Lib.hid (below_le B1.out b2')
 clear b2'
 go_wp2
 go_ret
 exact ⟨rfl, B2.out⟩
set_option maxRecDepth 100000 in
set_option maxHeartbeats 1000000 in
theorem tplain_high (x : Nat) (N : Int) (S F : ByteArray) (w : World) (t0 : (FloatKind.f64.format.order x 0 == some .eq) = false) (b1 : -1000 ≤ N) (b2 : N ≤ 1000) (h1 : 21 < N)
  (CS : Hid (∀ W, Below w.heap.size w W → Ct 59 #[.string S, .int .i64 (N - 1)] (.string F) W))
  (C : Hid (∀ W, W = w → Ct 40 #[.float .f64 x] (.tuple #[.string S, .int .i64 N]) W)) :
  Ct 44 #[.float .f64 x] (.string F) w := by
 have h2 : ¬ N ≤ -6 := by omega
 go_enter Tryz.func44, Tryz.ntmps44
 go_wp2_with fail
 refine (C.out _ rfl).mono ?_
 rintro e w1 ⟨rfl, b1'⟩
 have B1 := Lib.hid b1'
 clear b1'
 go_wp2_with fail
 refine (CS.out _ B1.out).mono ?_
 rintro e w2 ⟨rfl, b2'⟩
 have B2 := Lib.hid (below_le B1.out b2')
 clear b2'
 go_wp2
 go_ret
 exact ⟨rfl, B2.out⟩
set_option maxRecDepth 100000 in
set_option maxHeartbeats 1000000 in
theorem tplain_whole (x : Nat) (N : Int) (n z : Nat) (S F : ByteArray) (w : World) (t0 : (FloatKind.f64.format.order x 0 == some .eq) = false) (b1 : -1000 ≤ N) (b2 : N ≤ 1000) (h1 : -6 < N) (h2 : N ≤ 21) (hn : S.size = n) (h3 : (n : Int) ≤ N) (hz : N - (n : Int) = (z : Int)) (Z : ByteArray) (hZ : Hid (Z.size ≤ 1000)) (hF : S ++ Z = F)
  (CR : Hid (∀ W, Ct 106 #[.string ⟨#[48]⟩, .int .i64 z] (.string Z) W))
  (C : Hid (∀ W, W = w → Ct 40 #[.float .f64 x] (.tuple #[.string S, .int .i64 N]) W)) :
  Ct 44 #[.float .f64 x] (.string F) w := by
 have h4 : ¬ N ≤ -6 := by omega
 have h5 : ¬ 21 < N := by omega
 have h6 : 0 ≤ (n : Int) := by omega
 have g1 : ¬ 9223372036854775807 < n + Z.size := by have := hZ.out; omega
 have hzz := Lib.hid hz
 go_enter Tryz.func44, Tryz.ntmps44
 go_wp2_with fail
 refine (C.out _ rfl).mono ?_
 rintro e w1 ⟨rfl, b1'⟩
 have B1 := Lib.hid b1'
 clear b1'
 go_wp2_with fail
 refine (CR.out _).mono ?_
 rintro e w2 ⟨rfl, b2'⟩
 have B2 := Lib.hid (below_le B1.out b2')
 clear b2'
 go_wp2
 go_ret
 exact ⟨rfl, B2.out⟩
set_option maxRecDepth 100000 in
set_option maxHeartbeats 1000000 in
theorem tplain_point (x : Nat) (N : Int) (n z : Nat) (S F : ByteArray) (w : World) (t0 : (FloatKind.f64.format.order x 0 == some .eq) = false) (b1 : -1000 ≤ N) (b2 : N ≤ 1000) (h1 : -6 < N) (h2 : N ≤ 21) (hn : S.size = n) (h3 : N < (n : Int)) (hn2 : (n : Int) ≤ 1000) (hz : (n : Int) - N = (z : Int))
  (CP : Hid (∀ W, Ct 55 #[.string S, .int .i64 z] (.string F) W))
  (C : Hid (∀ W, W = w → Ct 40 #[.float .f64 x] (.tuple #[.string S, .int .i64 N]) W)) :
  Ct 44 #[.float .f64 x] (.string F) w := by
 have h4 : ¬ N ≤ -6 := by omega
 have h5 : ¬ 21 < N := by omega
 have h7 : ¬ (n : Int) ≤ N := by omega
 go_enter Tryz.func44, Tryz.ntmps44
 go_wp2_with fail
 refine (C.out _ rfl).mono ?_
 rintro e w1 ⟨rfl, b1'⟩
 have B1 := Lib.hid b1'
 clear b1'
 go_wp2_with fail
 refine (CP.out _).mono ?_
 rintro e w2 ⟨rfl, b2'⟩
 have B2 := Lib.hid (below_le B1.out b2')
 clear b2'
 go_wp2
 go_ret
 exact ⟨rfl, B2.out⟩

end Go.Proofs.YtfcpkdafkmohkaaGreatDoor
namespace Go.Proofs.YtfcpkdafkmohkaaGreatDoor
open Go.RowKit
theorem SQ.form {r : Nat} {D : List Nat} {N : Int} (h : SQ r D N) : ∃ d, d % 10 ≠ 0 ∧ D = dL d ∧ D.length ≤ 17 ∧ decR d (N - D.length) = r := by
 obtain ⟨n, k, c, h1, h2, h3, h4, h5, h6, h7⟩ := h
 have hd := (cnd_some h5).2
 rcases cnd_last h1 h2 h4 h5 with ⟨g1, g2, g3⟩ | ⟨g1, g2⟩
 ·obtain ⟨j, rfl⟩ : ∃ j, k = j + 1 := ⟨k - 1, by omega⟩
  have hl := dL_len (n := c) (k := j) g2 g3
  have e := dL_last g1
  rw [e] at h6
  refine ⟨c, g1, h6, by rw [h6, hl]; exact h3, ?_⟩
  rw [h6, h7, show ((dL c).length : Int) + n - ((j + 1 : Nat) : Int) - ((dL c).length : Int) = n - ((j + 1 : Nat) : Int) by omega]
  exact hd
 ·subst g1 g2
  have e : dL 10 = [49, 48] := by rw [dL_big (by omega), dL_small (by omega)]; rfl
  have e1 : dL 1 = [49] := dL_small (by omega)
  have h8 := decR_shift 1 1 (n - 1)
  rw [show 1 * 10 ^ 1 = 10 from rfl, show n - 1 + ((1 : Nat) : Int) = n by omega] at h8
  rw [e] at h6 h7
  have h9 : D = [49] := h6
  refine ⟨1, by omega, by rw [h9, e1], by rw [h9]; simp, ?_⟩
  rw [h9, h7, show (([49, 48] : List Nat).length : Int) + n - ((1 : Nat) : Int) - (([49] : List Nat).length : Int) = n by simp; omega]
  rw [← h8]
  exact hd
theorem SQ.bd {r : Nat} {D : List Nat} {N : Int} (h : SQ r D N) (h0 : 0 < r) (hr : r < 9218868437227405312) : -400 ≤ N ∧ N ≤ 400 ∧ 1 ≤ D.length ∧ D.length ≤ 17 ∧ (∀ c ∈ D, c < 256) := by
 obtain ⟨d, _, hD, hl, _⟩ := h.form
 obtain ⟨n, k, c, h1, h2, h3, h4, h5, h6, h7⟩ := h
 obtain ⟨m, two, hp⟩ := part_ex h0 hr
 obtain ⟨p, p1, p2, p3⟩ := point_ex hp
 have := point_one h1 p1
 subst this
 have hc : (dL c).length ≤ 18 ∧ 1 ≤ (dL c).length := by
  refine ⟨?_, dL_pos c⟩
  have hlt : c < 10 ^ 18 := by
   rcases cnd_last h1 h2 h4 h5 with ⟨_, _, g⟩ | ⟨_, g⟩
   ·have := Nat.pow_le_pow_right (n := 10) (by omega) (show k ≤ 18 by omega)
    omega
   ·omega
  exact dL_le hlt (by omega)
 refine ⟨by omega, by omega, ?_, hl, ?_⟩
 ·rw [hD]; exact dL_pos d
 ·intro x hx
  rw [hD] at hx
  have := dg10_iff.1 (dL_dig d x hx)
  omega
theorem sq_ex {r : Nat} (h0 : 0 < r) (hr : r < 9218868437227405312) : ∃ D N, SQ r D N := by
 obtain ⟨m, two, hp⟩ := part_ex h0 hr
 obtain ⟨n, hn, _, _⟩ := point_ex hp
 have h17 := cnd_ends hn h0 hr
 have key : ∀ i, i ≤ 16 → (∀ j, 1 ≤ j → j < 17 - i → cnd r n j = none) → ∃ k, 1 ≤ k ∧ k ≤ 17 ∧ (∀ j, 1 ≤ j → j < k → cnd r n j = none) ∧ cnd r n k ≠ none := by
  intro i
  induction i with
  | zero =>
   intro _ h
   exact ⟨17, by omega, by omega, h, h17⟩
  | succ i ih =>
   intro hi h
   by_cases hc : cnd r n (17 - (i + 1)) = none
   ·refine ih (by omega) ?_
    intro j hj1 hj2
    rcases Nat.lt_or_ge j (17 - (i + 1)) with h2 | h2
    ·exact h j hj1 h2
    ·rw [show j = 17 - (i + 1) by omega]
     exact hc
   ·exact ⟨17 - (i + 1), by omega, by omega, h, hc⟩
 obtain ⟨k, k1, k2, k3, k4⟩ := key 16 (by omega) (fun j h1 h2 => by omega)
 cases hc : cnd r n k with
 | none => exact absurd hc k4
 | some c => exact ⟨_, _, n, k, c, hn, k1, k2, k3, hc, rfl, rfl⟩
def plL (D : List Nat) (N : Int) : List Nat :=
 if N ≤ -6 ∨ 21 < N then scL D (N - 1) else if (D.length : Int) ≤ N then D ++ List.replicate (N - D.length).toNat 48 else ptL D ((D.length : Int) - N).toNat
def PlQ (r : Nat) (L : List Nat) : Prop := (r = 0 ∧ L = [48]) ∨ (0 < r ∧ ∃ D N, SQ r D N ∧ L = plL D N)
theorem plq_ex {r : Nat} (hr : r < 9218868437227405312) : ∃ L, PlQ r L := by
 rcases Nat.eq_zero_or_pos r with h | h
 ·exact ⟨_, .inl ⟨h, rfl⟩⟩
 ·obtain ⟨D, N, hq⟩ := sq_ex h hr
  exact ⟨_, .inr ⟨h, D, N, hq, rfl⟩⟩
theorem scL_lt {l : List Nat} {e : Int} (hl : ∀ c ∈ l, c < 256) : ∀ c ∈ scL l e, c < 256 := by
 intro c hc
 unfold scL at hc
 rw [List.mem_append, List.mem_append] at hc
 rcases hc with (hc | hc) | hc
 ·exact mnL_lt hl c hc
 ·unfold sgL at hc
  split at hc <;> simp at hc <;> omega
 ·have := dg10_iff.1 (dL_dig _ c hc)
  omega
theorem ptL_lt {l : List Nat} {k : Nat} (hl : ∀ c ∈ l, c < 256) : ∀ c ∈ ptL l k, c < 256 := by
 intro c hc
 unfold ptL at hc
 split at hc
 ·exact hl c hc
 ·rw [List.mem_append, List.mem_cons] at hc
  rcases hc with hc | rfl | hc
  ·exact mem_rep hl c (List.mem_of_mem_take hc)
  ·omega
  ·exact mem_rep hl c (List.mem_of_mem_drop hc)
theorem scL_len {l : List Nat} {e : Int} (he : e.natAbs < 10 ^ 6) : (scL l e).length ≤ l.length + 10 := by
 unfold scL
 rw [List.length_append, List.length_append]
 have h1 := mnL_len l
 have h2 : (sgL e).length = 2 := by unfold sgL; split <;> rfl
 have h3 := dL_le he (by omega)
 omega
theorem PlQ.bd {r : Nat} {L : List Nat} (hr : r < 9218868437227405312) (h : PlQ r L) : (∀ c ∈ L, c < 256) ∧ L.length ≤ 1000 := by
 rcases h with ⟨_, rfl⟩ | ⟨h0, D, N, hq, rfl⟩
 ·exact ⟨by simp, by simp⟩
 ·obtain ⟨b1, b2, b3, b4, b5⟩ := hq.bd h0 hr
  unfold plL
  split
  ·exact ⟨scL_lt b5, Nat.le_trans (scL_len (by omega)) (by omega)⟩
  ·split
   ·refine ⟨?_, by rw [List.length_append, List.length_replicate]; omega⟩
    intro c hc
    rw [List.mem_append, List.mem_replicate] at hc
    rcases hc with hc | ⟨_, rfl⟩
    ·exact b5 c hc
    ·omega
   ·refine ⟨ptL_lt b5, ?_⟩
    by_cases hz : ((D.length : Int) - N).toNat = 0
    ·unfold ptL; rw [if_pos hz]; omega
    ·rw [ptL_len _ _ hz]; omega
theorem tshortest_is {x : Nat} {D : List Nat} {N : Int} {w : World} (h0 : 0 < x) (hx : x < 9218868437227405312) (ht : Tab10 w) (hz : TzTab w) (h : SQ x D N) :
  Ct 40 #[.float .f64 x] (.tuple #[.string (strOf D), .int .i64 N]) w := by
 refine (tshortest_any x w h0 hx ht hz).mono ?_
 rintro e w' ⟨L, p, rfl, hq, hb⟩
 obtain ⟨rfl, rfl⟩ := h.one hq
 exact ⟨rfl, hb⟩
theorem tplain_any {r : Nat} {L : List Nat} {w : World} (hr : r < 9218868437227405312) (ht : Tab10 w) (hz : TzTab w) (h : PlQ r L) :
  Ct 44 #[.float .f64 r] (.string (strOf L)) w := by
 rcases h with ⟨rfl, rfl⟩ | ⟨h0, D, N, hq, rfl⟩
 ·refine (tplain_zero 0 w (by rw [ord_eq_pos (by omega) (by omega)]; rfl)).mono ?_
  rintro e w' ⟨rfl, rfl⟩
  exact ⟨rfl, Below.refl _ _⟩
 ·obtain ⟨b1, b2, b3, b4, b5⟩ := hq.bd h0 hr
  have t0 : (FloatKind.f64.format.order r 0 == some .eq) = false := by rw [ord_eq_pos (by omega) (by omega)]; exact decide_eq_false (by omega)
  have C : Hid (∀ W, W = w → Ct 40 #[.float .f64 r] (.tuple #[.string (strOf D), .int .i64 N]) W) := Lib.hid (fun W hW => by
   subst hW
   exact tshortest_is h0 hr ht hz hq)
  have CS := Lib.hid (fun W (hW : Below w.heap.size w W) => tscientific_any D (N - 1) W b5 b3 (by omega) (by omega) (by omega) (ht.on hW))
  unfold plL
  by_cases h1 : N ≤ -6
  ·rw [if_pos (.inl h1)]
   exact tplain_low r N _ _ w t0 (by omega) (by omega) h1 CS C
  ·by_cases h2 : 21 < N
   ·rw [if_pos (.inr h2)]
    exact tplain_high r N _ _ w t0 (by omega) (by omega) h2 CS C
   ·rw [if_neg (by omega)]
    by_cases h3 : (D.length : Int) ≤ N
    ·rw [if_pos h3]
     exact tplain_whole r N D.length (N - D.length).toNat _ _ w t0 (by omega) (by omega) (by omega) (by omega) (strOf_size D) h3 (by omega) (strOf (List.replicate (N - D.length).toNat 48)) (Lib.hid (by rw [strOf_size, List.length_replicate]; omega)) (strOf_append _ _) (Lib.hid fun W => trepeat_any _ W (by omega)) C
    ·rw [if_neg h3]
     exact tplain_point r N D.length ((D.length : Int) - N).toNat _ _ w t0 (by omega) (by omega) (by omega) (by omega) (strOf_size D) (by omega) (by omega) (by omega) (Lib.hid fun W => tpointed_any D _ W b5 (by omega) (by omega)) C
def wdS (L : List Nat) : ByteArray := ⟨(bL L).toArray⟩
theorem twide_any (L : List Nat) (w : World) (hL : ∀ c ∈ L, c < 256) (hl : L.length ≤ 100000) : Ct 41 #[.string (strOf L)] (.string (wdS L)) w := by
 have h := wide_any (strOf L) w (by rw [strOf_size]; omega)
 rw [show wdL (strOf L) = bl (strOf L) from bl_data _, bl_strOf hL] at h
 exact h
theorem vwide_any (L : List Nat) (w : World) (hL : ∀ c ∈ L, c < 256) (hl : L.length ≤ 100000) : Ct 38 #[.string (strOf L)] (.string (wdS L)) w := by
 have h := rwide_any (strOf L) w (by rw [strOf_size]; omega)
 rw [show wdL (strOf L) = bl (strOf L) from bl_data _, bl_strOf hL] at h
 exact h
def ngB (x : Nat) : Bool := fneg x && decide (0 < rung x)
theorem ord_neg (x : Nat) : (FloatKind.f64.format.order x 0 == some .lt) = (!fnan x && ngB x) := by
 unfold ngB fnan
 rcases Nat.lt_or_ge 9218868437227405312 (rung x) with h | h
 ·rw [show FloatKind.f64.format.order x 0 = Ieee.double.order x 0 from rfl, order_nan (.inl h), decide_eq_true h]
  rfl
 ·obtain ⟨a1, a2⟩ := frank_pos (x := 0) (by omega)
  rw [show FloatKind.f64.format.order x 0 = Ieee.double.order x 0 from rfl, order_eq h (by omega), a1, decide_eq_false (by omega), Bool.eq_iff_iff, beq_iff_eq, Option.some.injEq, Int.compare_eq_lt]
  unfold frank
  cases fneg x
  ·simp
  ·simp
def sgx (x : Nat) : List Nat := if ngB x = true then [45] else []
def SgQ (T : Nat → List Nat → Prop) (x : Nat) (L : List Nat) : Prop :=
 (fnan x = true ∧ L = [78, 97, 78]) ∨ (fnan x = false ∧ finf x = true ∧ L = sgx x ++ infL) ∨ (fnan x = false ∧ finf x = false ∧ ∃ l, T (rung x) l ∧ L = sgx x ++ l)
theorem fin_rung {x : Nat} (h1 : fnan x = false) (h2 : finf x = false) : rung x < 9218868437227405312 := by
 have := of_decide_eq_false h1
 have := of_decide_eq_false h2
 omega
set_option maxHeartbeats 1000000 in
theorem tsigned_any {T : Nat → List Nat → Prop} {x : Nat} {L : List Nat} {w : World} (f : FuncId) (hx : x < 18446744073709551616)
  (he : ∀ args (W : World), (callFunc f args).run Tryz.prog W = .ok (.enter f args) W)
  (hT : ∀ r l, r < 9218868437227405312 → T r l → (∀ c ∈ l, c < 256) ∧ l.length ≤ 99000 ∧ Ct f #[.float .f64 r] (.string (strOf l)) w)
  (h : SgQ T x L) : Ct 43 #[.float .f64 x, .func (Fn.func f) #[] #[]] (.string (wdS L)) w := by
 have t0 := ord_neg x
 have CN := fun W => isNaN_any x W
 have CI := fun W => isInf0_any x W hx
 rcases h with ⟨h1, rfl⟩ | ⟨h1, h2, rfl⟩ | ⟨h1, h2, l, h3, rfl⟩
 ·rw [h1] at t0 CN
  exact tsigned_00nan x f _ w t0 (Lib.hid CN) (Lib.hid fun W => twide_any [78, 97, 78] W (by simp) (by simp))
 ·rw [h1] at t0 CN
  rw [h2] at CI
  unfold sgx
  cases hn : ngB x
  ·rw [hn] at t0
   exact tsigned_00inf x f _ w t0 (Lib.hid CN) (Lib.hid CI) (Lib.hid fun W => twide_any _ W (by decide) (by decide))
  ·rw [hn] at t0
   exact tsigned_01inf x f _ w t0 (Lib.hid CN) (Lib.hid CI) (Lib.hid fun W => twide_any _ W (by decide) (by decide))
 ·rw [h1] at t0 CN
  rw [h2] at CI
  obtain ⟨l1, l2, hc⟩ := hT _ l (fin_rung h1 h2) h3
  have CA := fun W => abs_any x W hx
  have CT : Hid (∀ W, W = w → Ct f #[.float .f64 (rung x)] (.string (strOf l)) W) := Lib.hid (fun W hW => by
   subst hW
   exact hc)
  unfold sgx
  cases hn : ngB x
  ·rw [hn] at t0
   refine tsigned_00fin x f (strOf l) (strOf l) (rung x) _ w t0 (Lib.hid CN) (Lib.hid CI) (Lib.hid CA) he CT (Lib.hid (by rw [strOf_size]; omega)) ?_ (Lib.hid fun W => twide_any _ W l1 (by omega))
   rw [show (⟨#[]⟩ : ByteArray) = strOf [] from rfl, strOf_append]
   rfl
  ·rw [hn] at t0
   refine tsigned_01fin x f (strOf l) (strOf ([45] ++ l)) (rung x) _ w t0 (Lib.hid CN) (Lib.hid CI) (Lib.hid CA) he CT (Lib.hid (by rw [strOf_size]; omega)) ?_ (Lib.hid fun W => twide_any _ W ?_ ?_)
   ·rw [show (⟨#[45]⟩ : ByteArray) = strOf [45] from rfl, strOf_append]
   ·intro c hc
    rw [List.mem_append, List.mem_singleton] at hc
    rcases hc with rfl | hc
    ·omega
    ·exact l1 c hc
   ·rw [List.length_append, List.length_singleton]
    omega
def TxQ (x : Nat) (L : List Nat) : Prop := SgQ PlQ x L
theorem txq_ex (x : Nat) : ∃ L, TxQ x L := by
 unfold TxQ SgQ
 cases h1 : fnan x
 ·cases h2 : finf x
  ·obtain ⟨l, hl⟩ := plq_ex (fin_rung h1 h2)
   exact ⟨_, .inr (.inr ⟨rfl, rfl, l, hl, rfl⟩)⟩
  ·exact ⟨_, .inr (.inl ⟨rfl, rfl, rfl⟩)⟩
 ·exact ⟨_, .inl ⟨rfl, rfl⟩⟩
theorem tText_any {x : Nat} {L : List Nat} {w : World} (hx : x < 18446744073709551616) (ht : Tab10 w) (hz : TzTab w) (h : TxQ x L) :
  Ct 14 #[.float .f64 x] (.string (wdS L)) w := by
 have C := Lib.hid (fun W (hW : W = w) => tsigned_any (T := PlQ) (w := W) 44 hx (fun args W' => by go_simp) (fun r l hr hl => by
  subst hW
  obtain ⟨b1, b2⟩ := hl.bd hr
  exact ⟨b1, by omega, tplain_any hr ht hz hl⟩) h)
 clear h ht hz
 go_enter Tryz.func14, Tryz.ntmps14
 go_wp2_with fail
 refine (C.out _ rfl).mono ?_
 rintro e w1 ⟨rfl, b1⟩
 go_wp2
 go_ret
 exact ⟨rfl, b1⟩

end Go.Proofs.YtfcpkdafkmohkaaGreatDoor
namespace Go.Proofs.YtfcpkdafkmohkaaGreatDoor
open Go.RowKit
def PartG (x m : Nat) (two : Int) : Prop := (x = 0 ∧ m = 0 ∧ two = 0) ∨ (0 < x ∧ PartIs x m two)
def PartsG (x : Nat) (w : World) (e : Ending) (w' : World) : Prop := ∃ m two A n c, e = .returned (.tuple #[.slice A n c, .int .i64 two, .int .i64 0]) ∧ NV w' A n c m ∧ PartG x m two ∧ Below w.heap.size w w'
theorem nv_zero (w : World) : NV w none 0 0 0 := ⟨by rfl, by omega, RW.nil _ _ _⟩
theorem fbad_zero : fbad 0 = false := by decide
theorem pparts_g (x : Nat) (w : World) (hx : x < 9218868437227405312) (hz : TzTab w) : Cp 54 #[.float .f64 x] w (PartsG x w) := by
 rcases Nat.eq_zero_or_pos x with h | h
 ·subst h
  refine (pparts_zero 0 w (by omega) fbad_zero rfl).mono ?_
  rintro e w' ⟨rfl, rfl⟩
  exact ⟨0, 0, none, 0, 0, rfl, nv_zero _, .inl ⟨rfl, rfl, rfl⟩, Below.refl _ _⟩
 ·refine (pparts_pos x w h hx hz).mono ?_
  rintro e w' ⟨m, two, A, n, c, rfl, hv, hp, hb⟩
  exact ⟨m, two, A, n, c, rfl, hv, .inr ⟨h, hp⟩, hb⟩
set_option maxRecDepth 100000 in
set_option maxHeartbeats 1000000 in
theorem yscaled_up {x m a b : Nat} {two p : Int} {w : World} (h1 : 0 ≤ two) (h2 : 0 ≤ p) (b1 : -5000 ≤ two) (b2 : two ≤ 5000) (b3 : -5000 ≤ p) (b4 : p ≤ 5000) (ha : two = (a : Int)) (hb : p = (b : Int))
  (C1 : Hid (∀ W, W = w → Cp 114 #[.float .f64 x] W fun e w' => ∃ A n c, e = .returned (.tuple #[.slice A n c, .int .i64 two, .int .i64 0]) ∧ NV w' A n c m ∧ Below W.heap.size W w'))
  (C2 : Hid (∀ W A n c, NV W A n c m → Cp 102 #[.slice A n c, .int .i64 a] W (NRet (m * 2 ^ a) W)))
  (C3 : Hid (∀ W, Cp 115 #[.int .i64 b] W (NRet (10 ^ b) W)))
  (C4 : Hid (∀ W A n c C k d, NV W A n c (m * 2 ^ a) → NV W C k d (10 ^ b) → Cp 51 #[.slice A n c, .slice C k d] W (NRet (m * 2 ^ a * 10 ^ b) W))) :
  Cp 48 #[.float .f64 x, .int .i64 p] w fun e w' => ∃ A n c C k d, e = .returned (.tuple #[.slice A n c, .slice C k d]) ∧ NV w' A n c (m * 2 ^ a * 10 ^ b) ∧ NV w' C k d (1) ∧ Below w.heap.size w w' := by
 have t1 : 0 ≤ two := by omega
 have t2 : 0 ≤ p := by omega
 have t3 : -5000 ≤ two ∧ two ≤ 5000 := ⟨b1, b2⟩
 have t4 : -5000 ≤ p ∧ p ≤ 5000 := ⟨b3, b4⟩
 obtain ⟨t5, t6⟩ := t3
 obtain ⟨t7, t8⟩ := t4
 have HA := Lib.hid ha
 have HB := Lib.hid hb
 clear ha hb
 go_enter Tryz.func48, Tryz.ntmps48
 go_wp2_with fail
 refine (C1.out _ rfl).mono ?_
 rintro e w1 ⟨A1, n1, c1, rfl, g1, b1'⟩
 have B1 := Lib.hid (alloc_below (.cells #[.int .u32 1] 42) b1')
 have GM := Lib.hid (g1.step (below_al w1 (.cells #[.int .u32 1] 42)))
 have GD := Lib.hid (NV.lit w1 1 (by omega) (by omega))
 clear g1 b1'
 have ha := HA.out
 go_wp2_with fail
 clear ha
 generalize w1.alloc (.cells #[.int .u32 1] 42) = w2 at *
 refine (C2.out _ _ _ _ GM.out).mono ?_
 rintro e w3 ⟨A3, n3, c3, rfl, g3, b3'⟩
 have GM := Lib.hid g3
 have GD := Lib.hid (GD.out.step b3')
 have B3 := Lib.hid (below_le B1.out b3')
 clear g3 b3'
 have hb := HB.out
 go_wp2_with fail
 clear hb
 refine (C3.out _).mono ?_
 rintro e w4 ⟨A4, n4, c4, rfl, g4, b4'⟩
 have GP := Lib.hid g4
 have GM := Lib.hid (GM.out.step b4')
 have GD := Lib.hid (GD.out.step b4')
 have B4 := Lib.hid (below_le B3.out b4')
 clear g4 b4'
 go_wp2_with fail
 refine (C4.out _ _ _ _ _ _ _ GM.out GP.out).mono ?_
 rintro e w5 ⟨A5, n5, c5, rfl, g5, b5'⟩
 have GM := Lib.hid g5
 have GD := Lib.hid (GD.out.step b5')
 have B5 := Lib.hid (below_le B4.out b5')
 clear g5 b5'
 go_wp2
 go_ret2
 exact ⟨_, _, _, _, _, _, rfl, GM.out, GD.out, B5.out⟩
set_option maxRecDepth 100000 in
set_option maxHeartbeats 1000000 in
theorem yscaled_un {x m a b : Nat} {two p : Int} {w : World} (h1 : 0 ≤ two) (h2 : p < 0) (b1 : -5000 ≤ two) (b2 : two ≤ 5000) (b3 : -5000 ≤ p) (b4 : p ≤ 5000) (ha : two = (a : Int)) (hb : -p = (b : Int))
  (C1 : Hid (∀ W, W = w → Cp 114 #[.float .f64 x] W fun e w' => ∃ A n c, e = .returned (.tuple #[.slice A n c, .int .i64 two, .int .i64 0]) ∧ NV w' A n c m ∧ Below W.heap.size W w'))
  (C2 : Hid (∀ W A n c, NV W A n c m → Cp 102 #[.slice A n c, .int .i64 a] W (NRet (m * 2 ^ a) W)))
  (C3 : Hid (∀ W, Cp 115 #[.int .i64 b] W (NRet (10 ^ b) W)))
  (C4 : Hid (∀ W A n c C k d, NV W A n c (1) → NV W C k d (10 ^ b) → Cp 51 #[.slice A n c, .slice C k d] W (NRet (1 * 10 ^ b) W))) :
  Cp 48 #[.float .f64 x, .int .i64 p] w fun e w' => ∃ A n c C k d, e = .returned (.tuple #[.slice A n c, .slice C k d]) ∧ NV w' A n c (m * 2 ^ a) ∧ NV w' C k d (1 * 10 ^ b) ∧ Below w.heap.size w w' := by
 have t1 : 0 ≤ two := by omega
 have t2 : ¬ 0 ≤ p := by omega
 have t3 : -5000 ≤ two ∧ two ≤ 5000 := ⟨b1, b2⟩
 have t4 : -5000 ≤ p ∧ p ≤ 5000 := ⟨b3, b4⟩
 obtain ⟨t5, t6⟩ := t3
 obtain ⟨t7, t8⟩ := t4
 have HA := Lib.hid ha
 have HB := Lib.hid hb
 clear ha hb
 go_enter Tryz.func48, Tryz.ntmps48
 go_wp2_with fail
 refine (C1.out _ rfl).mono ?_
 rintro e w1 ⟨A1, n1, c1, rfl, g1, b1'⟩
 have B1 := Lib.hid (alloc_below (.cells #[.int .u32 1] 42) b1')
 have GM := Lib.hid (g1.step (below_al w1 (.cells #[.int .u32 1] 42)))
 have GD := Lib.hid (NV.lit w1 1 (by omega) (by omega))
 clear g1 b1'
 have ha := HA.out
 go_wp2_with fail
 clear ha
 generalize w1.alloc (.cells #[.int .u32 1] 42) = w2 at *
 refine (C2.out _ _ _ _ GM.out).mono ?_
 rintro e w3 ⟨A3, n3, c3, rfl, g3, b3'⟩
 have GM := Lib.hid g3
 have GD := Lib.hid (GD.out.step b3')
 have B3 := Lib.hid (below_le B1.out b3')
 clear g3 b3'
 have hb := HB.out
 go_wp2_with fail
 clear hb
 refine (C3.out _).mono ?_
 rintro e w4 ⟨A4, n4, c4, rfl, g4, b4'⟩
 have GP := Lib.hid g4
 have GM := Lib.hid (GM.out.step b4')
 have GD := Lib.hid (GD.out.step b4')
 have B4 := Lib.hid (below_le B3.out b4')
 clear g4 b4'
 go_wp2_with fail
 refine (C4.out _ _ _ _ _ _ _ GD.out GP.out).mono ?_
 rintro e w5 ⟨A5, n5, c5, rfl, g5, b5'⟩
 have GD := Lib.hid g5
 have GM := Lib.hid (GM.out.step b5')
 have B5 := Lib.hid (below_le B4.out b5')
 clear g5 b5'
 go_wp2
 go_ret2
 exact ⟨_, _, _, _, _, _, rfl, GM.out, GD.out, B5.out⟩
set_option maxRecDepth 100000 in
set_option maxHeartbeats 1000000 in
theorem yscaled_dp {x m a b : Nat} {two p : Int} {w : World} (h1 : two < 0) (h2 : 0 ≤ p) (b1 : -5000 ≤ two) (b2 : two ≤ 5000) (b3 : -5000 ≤ p) (b4 : p ≤ 5000) (ha : -two = (a : Int)) (hb : p = (b : Int))
  (C1 : Hid (∀ W, W = w → Cp 114 #[.float .f64 x] W fun e w' => ∃ A n c, e = .returned (.tuple #[.slice A n c, .int .i64 two, .int .i64 0]) ∧ NV w' A n c m ∧ Below W.heap.size W w'))
  (C2 : Hid (∀ W A n c, NV W A n c 1 → Cp 102 #[.slice A n c, .int .i64 a] W (NRet (1 * 2 ^ a) W)))
  (C3 : Hid (∀ W, Cp 115 #[.int .i64 b] W (NRet (10 ^ b) W)))
  (C4 : Hid (∀ W A n c C k d, NV W A n c (m) → NV W C k d (10 ^ b) → Cp 51 #[.slice A n c, .slice C k d] W (NRet (m * 10 ^ b) W))) :
  Cp 48 #[.float .f64 x, .int .i64 p] w fun e w' => ∃ A n c C k d, e = .returned (.tuple #[.slice A n c, .slice C k d]) ∧ NV w' A n c (m * 10 ^ b) ∧ NV w' C k d (1 * 2 ^ a) ∧ Below w.heap.size w w' := by
 have t1 : ¬ 0 ≤ two := by omega
 have t2 : 0 ≤ p := by omega
 have t3 : -5000 ≤ two ∧ two ≤ 5000 := ⟨b1, b2⟩
 have t4 : -5000 ≤ p ∧ p ≤ 5000 := ⟨b3, b4⟩
 obtain ⟨t5, t6⟩ := t3
 obtain ⟨t7, t8⟩ := t4
 have HA := Lib.hid ha
 have HB := Lib.hid hb
 clear ha hb
 go_enter Tryz.func48, Tryz.ntmps48
 go_wp2_with fail
 refine (C1.out _ rfl).mono ?_
 rintro e w1 ⟨A1, n1, c1, rfl, g1, b1'⟩
 have B1 := Lib.hid (alloc_below (.cells #[.int .u32 1] 42) b1')
 have GM := Lib.hid (g1.step (below_al w1 (.cells #[.int .u32 1] 42)))
 have GD := Lib.hid (NV.lit w1 1 (by omega) (by omega))
 clear g1 b1'
 have ha := HA.out
 go_wp2_with fail
 clear ha
 generalize w1.alloc (.cells #[.int .u32 1] 42) = w2 at *
 refine (C2.out _ _ _ _ GD.out).mono ?_
 rintro e w3 ⟨A3, n3, c3, rfl, g3, b3'⟩
 have GD := Lib.hid g3
 have GM := Lib.hid (GM.out.step b3')
 have B3 := Lib.hid (below_le B1.out b3')
 clear g3 b3'
 have hb := HB.out
 go_wp2_with fail
 clear hb
 refine (C3.out _).mono ?_
 rintro e w4 ⟨A4, n4, c4, rfl, g4, b4'⟩
 have GP := Lib.hid g4
 have GM := Lib.hid (GM.out.step b4')
 have GD := Lib.hid (GD.out.step b4')
 have B4 := Lib.hid (below_le B3.out b4')
 clear g4 b4'
 go_wp2_with fail
 refine (C4.out _ _ _ _ _ _ _ GM.out GP.out).mono ?_
 rintro e w5 ⟨A5, n5, c5, rfl, g5, b5'⟩
 have GM := Lib.hid g5
 have GD := Lib.hid (GD.out.step b5')
 have B5 := Lib.hid (below_le B4.out b5')
 clear g5 b5'
 go_wp2
 go_ret2
 exact ⟨_, _, _, _, _, _, rfl, GM.out, GD.out, B5.out⟩
set_option maxRecDepth 100000 in
set_option maxHeartbeats 1000000 in
theorem yscaled_dn {x m a b : Nat} {two p : Int} {w : World} (h1 : two < 0) (h2 : p < 0) (b1 : -5000 ≤ two) (b2 : two ≤ 5000) (b3 : -5000 ≤ p) (b4 : p ≤ 5000) (ha : -two = (a : Int)) (hb : -p = (b : Int))
  (C1 : Hid (∀ W, W = w → Cp 114 #[.float .f64 x] W fun e w' => ∃ A n c, e = .returned (.tuple #[.slice A n c, .int .i64 two, .int .i64 0]) ∧ NV w' A n c m ∧ Below W.heap.size W w'))
  (C2 : Hid (∀ W A n c, NV W A n c 1 → Cp 102 #[.slice A n c, .int .i64 a] W (NRet (1 * 2 ^ a) W)))
  (C3 : Hid (∀ W, Cp 115 #[.int .i64 b] W (NRet (10 ^ b) W)))
  (C4 : Hid (∀ W A n c C k d, NV W A n c (1 * 2 ^ a) → NV W C k d (10 ^ b) → Cp 51 #[.slice A n c, .slice C k d] W (NRet (1 * 2 ^ a * 10 ^ b) W))) :
  Cp 48 #[.float .f64 x, .int .i64 p] w fun e w' => ∃ A n c C k d, e = .returned (.tuple #[.slice A n c, .slice C k d]) ∧ NV w' A n c (m) ∧ NV w' C k d (1 * 2 ^ a * 10 ^ b) ∧ Below w.heap.size w w' := by
 have t1 : ¬ 0 ≤ two := by omega
 have t2 : ¬ 0 ≤ p := by omega
 have t3 : -5000 ≤ two ∧ two ≤ 5000 := ⟨b1, b2⟩
 have t4 : -5000 ≤ p ∧ p ≤ 5000 := ⟨b3, b4⟩
 obtain ⟨t5, t6⟩ := t3
 obtain ⟨t7, t8⟩ := t4
 have HA := Lib.hid ha
 have HB := Lib.hid hb
 clear ha hb
 go_enter Tryz.func48, Tryz.ntmps48
 go_wp2_with fail
 refine (C1.out _ rfl).mono ?_
 rintro e w1 ⟨A1, n1, c1, rfl, g1, b1'⟩
 have B1 := Lib.hid (alloc_below (.cells #[.int .u32 1] 42) b1')
 have GM := Lib.hid (g1.step (below_al w1 (.cells #[.int .u32 1] 42)))
 have GD := Lib.hid (NV.lit w1 1 (by omega) (by omega))
 clear g1 b1'
 have ha := HA.out
 go_wp2_with fail
 clear ha
 generalize w1.alloc (.cells #[.int .u32 1] 42) = w2 at *
 refine (C2.out _ _ _ _ GD.out).mono ?_
 rintro e w3 ⟨A3, n3, c3, rfl, g3, b3'⟩
 have GD := Lib.hid g3
 have GM := Lib.hid (GM.out.step b3')
 have B3 := Lib.hid (below_le B1.out b3')
 clear g3 b3'
 have hb := HB.out
 go_wp2_with fail
 clear hb
 refine (C3.out _).mono ?_
 rintro e w4 ⟨A4, n4, c4, rfl, g4, b4'⟩
 have GP := Lib.hid g4
 have GM := Lib.hid (GM.out.step b4')
 have GD := Lib.hid (GD.out.step b4')
 have B4 := Lib.hid (below_le B3.out b4')
 clear g4 b4'
 go_wp2_with fail
 refine (C4.out _ _ _ _ _ _ _ GD.out GP.out).mono ?_
 rintro e w5 ⟨A5, n5, c5, rfl, g5, b5'⟩
 have GD := Lib.hid g5
 have GM := Lib.hid (GM.out.step b5')
 have B5 := Lib.hid (below_le B4.out b5')
 clear g5 b5'
 go_wp2
 go_ret2
 exact ⟨_, _, _, _, _, _, rfl, GM.out, GD.out, B5.out⟩

end Go.Proofs.YtfcpkdafkmohkaaGreatDoor
namespace Go.Proofs.YtfcpkdafkmohkaaGreatDoor
open Go.RowKit
def scN (m : Nat) (two p : Int) : Nat := m * 2 ^ two.toNat * 10 ^ p.toNat
def scD (two p : Int) : Nat := 2 ^ (-two).toNat * 10 ^ (-p).toNat
theorem scD_pos (two p : Int) : 0 < scD two p := Nat.mul_pos (two_pos _) (ten_pos _)
theorem sc_facts {x m : Nat} {two : Int} (h : PartG x m two) (p : Int) : scN m two p * vV p = vU x p * scD two p := by
 have key : m * 2 ^ two.toNat * big = fmag x * 2 ^ (-two).toNat := by
  rcases h with ⟨rfl, rfl, rfl⟩ | ⟨_, h⟩
  ·rw [fmag_zero, Nat.zero_mul, Nat.zero_mul, Nat.zero_mul]
  ·exact vcross h
 unfold scN vV vU scD
 generalize 2 ^ two.toNat = A at *
 generalize 2 ^ (-two).toNat = B at *
 generalize 10 ^ p.toNat = C at *
 generalize 10 ^ (-p).toNat = D at *
 generalize fmag x = F at *
 have e1 : m * A * C * (big * D) = m * A * big * (C * D) := by grind
 have e2 : F * C * (B * D) = F * B * (C * D) := by grind
 rw [e1, e2, key]
theorem PartG.bd {x m : Nat} {two : Int} (h : PartG x m two) : bln m ≤ 53 ∧ -1074 ≤ two ∧ two ≤ 1023 := by
 rcases h with ⟨rfl, rfl, rfl⟩ | ⟨_, h⟩
 ·rw [bln_zero]
  omega
 ·obtain ⟨q1, q2, q3, q4, q5, q6⟩ := h.pos
  exact ⟨q2, q5, q6⟩
theorem scN_bln {x m : Nat} {two p : Int} (h : PartG x m two) (hp : p ≤ 700) : bln (scN m two p) ≤ 5000 := by
 obtain ⟨b1, b2, b3⟩ := h.bd
 unfold scN
 have h1 := bln_mul (m * 2 ^ two.toNat) (10 ^ p.toNat)
 have h2 := bln_mul m (2 ^ two.toNat)
 have h3 := bln_pow2 two.toNat
 have h4 := bln_ten p.toNat
 omega
theorem scD_bln {two p : Int} (h : -1074 ≤ two) (hp : -700 ≤ p) : bln (scD two p) ≤ 5000 := by
 unfold scD
 have h1 := bln_mul (2 ^ (-two).toNat) (10 ^ (-p).toNat)
 have h3 := bln_pow2 (-two).toNat
 have h4 := bln_ten (-p).toNat
 omega
theorem rparts_fix (x : Nat) (hx : x < 9218868437227405312) : ∃ m two, PartG x m two ∧ ∀ W, Cp 114 #[.float .f64 x] W fun e w' => ∃ A n c, e = .returned (.tuple #[.slice A n c, .int .i64 two, .int .i64 0]) ∧ NV w' A n c m ∧ Below W.heap.size W w' := by
 rcases Nat.eq_zero_or_pos x with h | h
 ·subst h
  refine ⟨0, 0, .inl ⟨rfl, rfl, rfl⟩, fun W => (rparts_zero 0 W (by omega) fbad_zero rfl).mono ?_⟩
  rintro e w' ⟨rfl, rfl⟩
  exact ⟨none, 0, 0, rfl, nv_zero _, Below.refl _ _⟩
 ·obtain ⟨p1, p2⟩ := fwhole_pos h
  obtain ⟨k, m, hkm⟩ := odd_part _ p1
  obtain ⟨h1, h2⟩ := fbad_pos h hx
  refine ⟨2 * m + 1, fpow x + (k : Nat), .inr ⟨h, parts_is h hx hkm⟩, fun W => (rparts_ok x W (by omega) h2 (by omega)).mono ?_⟩
  rintro e w' ⟨k2, m2, A, n, c, hkm2, rfl, ⟨hn, hc, hr⟩, hb⟩
  obtain ⟨rfl, rfl⟩ := odd_one hkm hkm2 (by omega)
  exact ⟨A, n, c, rfl, ⟨hn.symm, hc, hr⟩, hb⟩
def ScQ (m : Nat) (two p : Int) (w : World) (e : Ending) (w' : World) : Prop := ∃ A n c C k d, e = .returned (.tuple #[.slice A n c, .slice C k d]) ∧ NV w' A n c (scN m two p) ∧ NV w' C k d (scD two p) ∧ Below w.heap.size w w'
theorem yscaled_of {x m : Nat} {two : Int} (hb : bln m ≤ 53 ∧ -1074 ≤ two ∧ two ≤ 1023)
  (hC : ∀ W, Cp 114 #[.float .f64 x] W fun e w' => ∃ A n c, e = .returned (.tuple #[.slice A n c, .int .i64 two, .int .i64 0]) ∧ NV w' A n c m ∧ Below W.heap.size W w')
  (p : Int) (W : World) (hp1 : -700 ≤ p) (hp2 : p ≤ 700) : Cp 48 #[.float .f64 x, .int .i64 p] W (ScQ m two p W) := by
 obtain ⟨b1, b2, b3⟩ := hb
 have C1 : Hid (∀ W', W' = W → Cp 114 #[.float .f64 x] W' fun e w' => ∃ A n c, e = .returned (.tuple #[.slice A n c, .int .i64 two, .int .i64 0]) ∧ NV w' A n c m ∧ Below W'.heap.size W' w') := Lib.hid (fun W' _ => hC W')
 have hm2 := bln_mul m (2 ^ two.toNat)
 have hp2' := bln_pow2 two.toNat
 have hp3' := bln_pow2 (-two).toNat
 have h1b : bln 1 = 1 := by decide
 have ht4 := bln_ten p.toNat
 have ht5 := bln_ten (-p).toNat
 unfold ScQ scN scD
 rcases (show two < 0 ∨ 0 ≤ two by omega) with h | h
 ·have z1 : two.toNat = 0 := by omega
  rw [z1, Nat.pow_zero, Nat.mul_one]
  have hl1 := bln_mul 1 (2 ^ (-two).toNat)
  have C2 := Lib.hid (fun W' A n c (g : NV W' A n c 1) => rnup g (-two).toNat (by omega) (by omega))
  rcases (show p < 0 ∨ 0 ≤ p by omega) with k | k
  ·rw [show p.toNat = 0 by omega, Nat.pow_zero, Nat.mul_one]
   refine (yscaled_dn h k (by omega) (by omega) (by omega) (by omega) (a := (-two).toNat) (b := (-p).toNat) (by omega) (by omega) C1 C2 (Lib.hid fun W' => ypow_any _ W' (by omega)) (Lib.hid fun W' A n c C k' d g1 g2 => rntimes g1 g2 (by omega) (by omega))).mono ?_
   rintro e w' ⟨A, n, c, C, k', d, rfl, g1, g2, g3⟩
   rw [Nat.one_mul] at g2
   exact ⟨A, n, c, C, k', d, rfl, g1, g2, g3⟩
  ·rw [show (-p).toNat = 0 by omega, Nat.pow_zero, Nat.mul_one]
   refine (yscaled_dp h k (by omega) (by omega) (by omega) (by omega) (a := (-two).toNat) (b := p.toNat) (by omega) (by omega) C1 C2 (Lib.hid fun W' => ypow_any _ W' (by omega)) (Lib.hid fun W' A n c C k' d g1 g2 => rntimes g1 g2 (by omega) (by omega))).mono ?_
   rintro e w' ⟨A, n, c, C, k', d, rfl, g1, g2, g3⟩
   rw [Nat.one_mul] at g2
   exact ⟨A, n, c, C, k', d, rfl, g1, g2, g3⟩
 ·have z1 : (-two).toNat = 0 := by omega
  rw [z1, Nat.pow_zero, Nat.one_mul]
  have C2 := Lib.hid (fun W' A n c (g : NV W' A n c m) => rnup g two.toNat (by omega) (by omega))
  rcases (show p < 0 ∨ 0 ≤ p by omega) with k | k
  ·rw [show p.toNat = 0 by omega, Nat.pow_zero, Nat.mul_one]
   refine (yscaled_un h k (by omega) (by omega) (by omega) (by omega) (a := two.toNat) (b := (-p).toNat) (by omega) (by omega) C1 C2 (Lib.hid fun W' => ypow_any _ W' (by omega)) (Lib.hid fun W' A n c C k' d g1 g2 => rntimes g1 g2 (by omega) (by omega))).mono ?_
   rintro e w' ⟨A, n, c, C, k', d, rfl, g1, g2, g3⟩
   rw [Nat.one_mul] at g2
   exact ⟨A, n, c, C, k', d, rfl, g1, g2, g3⟩
  ·rw [show (-p).toNat = 0 by omega, Nat.pow_zero]
   refine (yscaled_up h k (by omega) (by omega) (by omega) (by omega) (a := two.toNat) (b := p.toNat) (by omega) (by omega) C1 C2 (Lib.hid fun W' => ypow_any _ W' (by omega)) (Lib.hid fun W' A n c C k' d g1 g2 => rntimes g1 g2 (by omega) (by omega))).mono ?_
   rintro e w' ⟨A, n, c, C, k', d, rfl, g1, g2, g3⟩
   exact ⟨A, n, c, C, k', d, rfl, g1, g2, g3⟩
theorem yscaled_fix (x : Nat) (hx : x < 9218868437227405312) : ∃ m two, PartG x m two ∧ ∀ p W, -700 ≤ p → p ≤ 700 → Cp 48 #[.float .f64 x, .int .i64 p] W (ScQ m two p W) := by
 obtain ⟨m, two, hG, hC⟩ := rparts_fix x hx
 exact ⟨m, two, hG, fun p W h1 h2 => yscaled_of hG.bd hC p W h1 h2⟩
theorem yscaled_nought (x : Nat) (hx : x < 18446744073709551616) (h0 : rung x = 0) (p : Int) (W : World) (h1 : -700 ≤ p) (h2 : p ≤ 700) : Cp 48 #[.float .f64 x, .int .i64 p] W (ScQ 0 0 p W) := by
 refine yscaled_of (m := 0) (two := 0) ⟨by rw [bln_zero]; omega, by omega, by omega⟩ (fun W => (rparts_zero x W hx ?_ h0).mono ?_) p W h1 h2
 ·unfold fbad fnan finf
  rw [h0]
  simp
 ·rintro e w' ⟨rfl, rfl⟩
  exact ⟨none, 0, 0, rfl, nv_zero _, Below.refl _ _⟩

end Go.Proofs.YtfcpkdafkmohkaaGreatDoor
namespace Go.Proofs.YtfcpkdafkmohkaaGreatDoor
open Go.RowKit
def cmpN (a b : Nat) : Int := if a < b then -1 else if b < a then 1 else 0
theorem rncmp {w : World} {A C : Option Addr} {n c m d a b : Nat} (hA : NV w A n c a) (hB : NV w C m d b) (ha : bln a ≤ 30000) (hb : bln b ≤ 30000) :
  Cq 101 #[.slice A n c, .slice C m d] (.int .i64 (cmpN a b)) w := by
 have h1 := small_len ha
 have h2 := small_len hb
 refine (rcmp_any A C n c m d (wds a) (wds b) _ _ w hA.len (by have := hA.len; omega) hA.row hB.len (by have := hB.len; omega) hB.row).mono ?_
 rintro e w' ⟨rfl, rfl⟩
 refine ⟨?_, rfl⟩
 unfold cmpN
 by_cases k1 : a < b
 ·rw [if_pos k1, ord_lt (by rw [wds_val, wds_val]; exact k1)]
 ·by_cases k2 : b < a
  ·rw [if_neg k1, if_pos k2, ord_gt (by rw [wds_val, wds_val]; exact k2)]
  ·rw [if_neg k1, if_neg k2, ord_eq (by rw [wds_val, wds_val]; omega)]
theorem start_le {U V : Nat} {p : Int} (hU : 0 < U) (hV : 0 < V) (hp : PointAt U V p) (h1 : bln U ≤ 1140) (h2 : bln V ≤ 1140) : (((bln U : Int) - bln V) * 30103).tdiv 100000 - 3 ≤ p := by
 obtain ⟨u1, u2, u3⟩ := bln_bounds hU
 obtain ⟨v1, v2, v3⟩ := bln_bounds hV
 obtain ⟨e, he⟩ : ∃ e : Int, (bln U : Int) - bln V = e := ⟨_, rfl⟩
 rw [he]
 have hs := start_at (e := e) (by omega) (by omega)
 have hle : 2 ^ (e - 1).toNat * V ≤ U * 2 ^ (-(e - 1)).toNat := by
  have a1 : 2 ^ (e - 1).toNat * V ≤ 2 ^ (e - 1).toNat * 2 ^ bln V := Nat.mul_le_mul_left _ (Nat.le_of_lt v2)
  have a2 : 2 ^ (bln U - 1) * 2 ^ (-(e - 1)).toNat ≤ U * 2 ^ (-(e - 1)).toNat := Nat.mul_le_mul_right _ u1
  have a3 : 2 ^ (e - 1).toNat * 2 ^ bln V = 2 ^ (bln U - 1) * 2 ^ (-(e - 1)).toNat := by
   rw [← Nat.pow_add, ← Nat.pow_add]
   exact congrArg (fun k => 2 ^ k) (by omega)
  omega
 have hl := le10_mono (two_pos _) hle hs
 rcases (show (e * 30103).tdiv 100000 - 3 ≤ p ∨ p < (e * 30103).tdiv 100000 - 3 by omega) with h | h
 ·exact h
 ·exfalso
  refine hp.2 (le10_down ((e * 30103).tdiv 100000 - 4 - p).toNat ?_)
  rw [show p + ((((e * 30103).tdiv 100000 - 4 - p).toNat : Nat) : Int) = (e * 30103).tdiv 100000 - 4 by omega]
  exact hl
def askN (U V : Nat) (n : Int) : Int := if 0 ≤ n then cmpN U (V * 10 ^ n.toNat) else cmpN (U * 10 ^ (-n).toNat) V
theorem ask_le {U V : Nat} {n : Int} : askN U V n < 0 ↔ ¬ le10 n U V := by
 unfold askN le10 cmpN
 rcases (show 0 ≤ n ∨ n < 0 by omega) with h | h
 ·rw [if_pos h, show (-n).toNat = 0 by omega, Nat.pow_zero, Nat.mul_one]
  generalize V * 10 ^ n.toNat = X
  split
  ·omega
  ·split <;> omega
 ·rw [if_neg (by omega), show n.toNat = 0 by omega, Nat.pow_zero, Nat.mul_one]
  generalize U * 10 ^ (-n).toNat = X
  split
  ·omega
  ·split <;> omega
set_option maxRecDepth 100000 in
set_option maxHeartbeats 3000000 in
theorem ypoint_walk {x U V bu bv : Nat} {n0 p s1 s2 s3 : Int} {w : World}
  (C1 : Hid (∀ W, W = w → Cp 48 #[.float .f64 x, .int .i64 0] W fun e w' => ∃ A n c C k d, e = .returned (.tuple #[.slice A n c, .slice C k d]) ∧ NV w' A n c U ∧ NV w' C k d V ∧ Below W.heap.size W w'))
  (C2 : Hid (∀ W A n c, NV W A n c U → Ct 163 #[.slice A n c] (.int .i64 (bu : Nat)) W))
  (C3 : Hid (∀ W A n c, NV W A n c V → Ct 163 #[.slice A n c] (.int .i64 (bv : Nat)) W))
  (CP : Hid (∀ W (n : Nat), n ≤ 400 → Cp 115 #[.int .i64 n] W (NRet (10 ^ n) W)))
  (CU : Hid (∀ W (n : Nat) A n1 c C k d, n ≤ 400 → NV W A n1 c U → NV W C k d (10 ^ n) → Cp 51 #[.slice A n1 c, .slice C k d] W (NRet (U * 10 ^ n) W)))
  (CV : Hid (∀ W (n : Nat) A n1 c C k d, n ≤ 400 → NV W A n1 c V → NV W C k d (10 ^ n) → Cp 51 #[.slice A n1 c, .slice C k d] W (NRet (V * 10 ^ n) W)))
  (CC : Hid (∀ W (n : Nat) A n1 c C k d, n ≤ 400 → NV W A n1 c U → NV W C k d (V * 10 ^ n) → Cq 101 #[.slice A n1 c, .slice C k d] (.int .i64 (cmpN U (V * 10 ^ n))) W))
  (CD : Hid (∀ W (n : Nat) A n1 c C k d, n ≤ 400 → NV W A n1 c (U * 10 ^ n) → NV W C k d V → Cq 101 #[.slice A n1 c, .slice C k d] (.int .i64 (cmpN (U * 10 ^ n) V)) W))
  (k1 : (bu : Int) - bv = s1) (b1 : -3000 ≤ s1) (b2 : s1 ≤ 3000) (k2 : s1 * 30103 = s2) (k3 : s2.tdiv 100000 = s3) (k4 : s3 - 3 = n0)
  (h0 : -400 ≤ n0) (hp : n0 ≤ p) (hp4 : p ≤ 390) (hle : Hid (∀ n, n < p → askN U V n < 0 → False)) (hat : Hid (askN U V p < 0)) :
  Ct 100 #[.float .f64 x] (.int .i64 p) w := by
 have b3 : -90400000 ≤ s2 := by omega
 have b4 : s2 ≤ 90400000 := by omega
 have b5 : -404 ≤ s3 := by omega
 have b6 : s3 ≤ 400 := by omega
 have K1 := Lib.hid k1
 have K2 := Lib.hid k2
 have K3 := Lib.hid k3
 have K4 := Lib.hid k4
 have HP := Lib.hid hp
 clear k1 k2 k3 k4 hp
 go_enter Tryz.func100, Tryz.ntmps100
 go_wp2_with fail
 refine (C1.out _ rfl).mono ?_
 rintro e w1 ⟨A1, n1, c1, A2, n2, c2, rfl, g1, g2, b1'⟩
 have GU := Lib.hid g1
 have GV := Lib.hid g2
 have B1 := Lib.hid b1'
 clear g1 g2 b1'
 go_wp2_with fail
 refine (C2.out _ _ _ _ GU.out).mono ?_
 rintro e w2 ⟨rfl, b2'⟩
 have GU := Lib.hid (GU.out.step b2')
 have GV := Lib.hid (GV.out.step b2')
 have B2 := Lib.hid (below_le B1.out b2')
 clear b2'
 go_wp2_with fail
 refine (C3.out _ _ _ _ GV.out).mono ?_
 rintro e w3 ⟨rfl, b3'⟩
 have GU := Lib.hid (GU.out.step b3')
 have GV := Lib.hid (GV.out.step b3')
 have B3 := Lib.hid (below_le B2.out b3')
 clear b3'
 have k1 := K1.out
 have k2 := K2.out
 have k3 := K3.out
 have k4 := K4.out
 go_wp2
 clear k1 k2 k3 k4
 go_loopw [5] (fun v wr => ∃ n : Int, v = .int .i64 n ∧ n0 ≤ n ∧ n ≤ p ∧ Hid (NV wr A1 n1 c1 U) ∧ Hid (NV wr A2 n2 c2 V) ∧ Hid (Below w.heap.size w wr)) (fun v _ => (p - intOf v).toNat)
 case atStart => exact ⟨n0, rfl, by omega, HP.out, GU, GV, B3⟩
 case round =>
  obtain ⟨n, rfl, hn0, hnp, GU, GV, B3⟩ := hrel
  rcases (show 0 ≤ n ∨ n < 0 by omega) with hs | hs
  ·obtain ⟨k, rfl⟩ : ∃ k : Nat, n = (k : Int) := ⟨n.toNat, by omega⟩
   have t1 : (0 : Int) ≤ (k : Int) := by omega
   have hask : askN U V (k : Int) = cmpN U (V * 10 ^ k) := by unfold askN; rw [if_pos (by omega), Int.toNat_natCast]
   have hk4 : k ≤ 400 := by have := HP.out; omega
   have C9 : Hid (∀ W A n1 c, NV W A n1 c U → ∀ C k' d, NV W C k' d (V * 10 ^ k) → Cq 101 #[.slice A n1 c, .slice C k' d] (.int .i64 (cmpN U (V * 10 ^ k))) W) := Lib.hid (fun W A n1 c h C k' d g => CC.out W k A n1 c C k' d hk4 h g)
   obtain ⟨r, hr⟩ : ∃ r, cmpN U (V * 10 ^ k) = r := ⟨_, rfl⟩
   rw [hr] at C9 hask
   have e4 : (k : Int) < 400 := by omega
   by_cases hlt : (k : Int) < p
   ·have t2 : ¬ r < 0 := fun h => hle.out _ hlt (by rw [hask]; exact h)
    clear hask hr
    go_wp2_with fail
    refine (CP.out _ k hk4).mono ?_
    rintro e w4 ⟨A4, n4, c4, rfl, g4, b4'⟩
    have G4 := Lib.hid g4
    have GU := Lib.hid (GU.out.step b4')
    have GV := Lib.hid (GV.out.step b4')
    have B4 := Lib.hid (below_le B3.out b4')
    clear g4 b4'
    go_wp2_with fail
    refine (CV.out _ k _ _ _ _ _ _ hk4 GV.out G4.out).mono ?_
    rintro e w5 ⟨A5, n5, c5, rfl, g5, b5'⟩
    have G5 := Lib.hid g5
    have GU := Lib.hid (GU.out.step b5')
    have GV := Lib.hid (GV.out.step b5')
    have B5 := Lib.hid (below_le B4.out b5')
    clear g5 b5'
    go_wp2_with fail
    refine (C9.out _ _ _ _ GU.out _ _ _ G5.out).mono ?_
    rintro e w' ⟨rfl, rfl⟩
    go_wp2
    go_roundw
    case rel => exact ⟨(k : Int) + 1, rfl, by omega, by omega, GU, GV, B5⟩
    case measure => simp [intOf]; omega
   ·have hnp : (k : Int) = p := by omega
    have t2 : r < 0 := by have := hat.out; rw [← hnp, hask] at this; exact this
    have HNP := Lib.hid hnp
    clear hask hr hnp
    go_wp2_with fail
    refine (CP.out _ k hk4).mono ?_
    rintro e w4 ⟨A4, n4, c4, rfl, g4, b4'⟩
    have G4 := Lib.hid g4
    have GU := Lib.hid (GU.out.step b4')
    have GV := Lib.hid (GV.out.step b4')
    have B4 := Lib.hid (below_le B3.out b4')
    clear g4 b4'
    go_wp2_with fail
    refine (CV.out _ k _ _ _ _ _ _ hk4 GV.out G4.out).mono ?_
    rintro e w5 ⟨A5, n5, c5, rfl, g5, b5'⟩
    have G5 := Lib.hid g5
    have GU := Lib.hid (GU.out.step b5')
    have GV := Lib.hid (GV.out.step b5')
    have B5 := Lib.hid (below_le B4.out b5')
    clear g5 b5'
    go_wp2_with fail
    refine (C9.out _ _ _ _ GU.out _ _ _ G5.out).mono ?_
    rintro e w' ⟨rfl, rfl⟩
    go_wp2
    go_ret
    exact ⟨by rw [← HNP.out]; rfl, B5.out⟩
  ·obtain ⟨k, hk⟩ : ∃ k : Nat, -n = (k : Int) := ⟨(-n).toNat, by omega⟩
   have t1 : ¬ 0 ≤ n := by omega
   have hask : askN U V n = cmpN (U * 10 ^ k) V := by unfold askN; rw [if_neg (by omega), show (-n).toNat = k by omega]
   have HK := Lib.hid hk
   have hk4 : k ≤ 400 := by have := HP.out; omega
   have C9 : Hid (∀ W A n1 c, NV W A n1 c (U * 10 ^ k) → ∀ C k' d, NV W C k' d V → Cq 101 #[.slice A n1 c, .slice C k' d] (.int .i64 (cmpN (U * 10 ^ k) V)) W) := Lib.hid (fun W A n1 c h C k' d g => CD.out W k A n1 c C k' d hk4 h g)
   obtain ⟨r, hr⟩ : ∃ r, cmpN (U * 10 ^ k) V = r := ⟨_, rfl⟩
   rw [hr] at C9 hask
   have e4 : n < 400 := by omega
   by_cases hlt : n < p
   ·have t2 : ¬ r < 0 := fun h => hle.out _ hlt (by rw [hask]; exact h)
    clear hask hr
    have hk' := HK.out
    clear hk
    go_wp2_with fail
    refine (CP.out _ k hk4).mono ?_
    rintro e w4 ⟨A4, n4, c4, rfl, g4, b4'⟩
    have G4 := Lib.hid g4
    have GU := Lib.hid (GU.out.step b4')
    have GV := Lib.hid (GV.out.step b4')
    have B4 := Lib.hid (below_le B3.out b4')
    clear g4 b4'
    go_wp2_with fail
    refine (CU.out _ k _ _ _ _ _ _ hk4 GU.out G4.out).mono ?_
    rintro e w5 ⟨A5, n5, c5, rfl, g5, b5'⟩
    have G5 := Lib.hid g5
    have GU := Lib.hid (GU.out.step b5')
    have GV := Lib.hid (GV.out.step b5')
    have B5 := Lib.hid (below_le B4.out b5')
    clear g5 b5'
    go_wp2_with fail
    refine (C9.out _ _ _ _ G5.out _ _ _ GV.out).mono ?_
    rintro e w' ⟨rfl, rfl⟩
    go_wp2
    go_roundw
    case rel => exact ⟨n + 1, rfl, by omega, by omega, GU, GV, B5⟩
    case measure => simp [intOf]; omega
   ·have hnp : n = p := by omega
    have t2 : r < 0 := by have := hat.out; rw [← hnp, hask] at this; exact this
    have HNP := Lib.hid hnp
    clear hask hr hnp
    have hk' := HK.out
    clear hk
    go_wp2_with fail
    refine (CP.out _ k hk4).mono ?_
    rintro e w4 ⟨A4, n4, c4, rfl, g4, b4'⟩
    have G4 := Lib.hid g4
    have GU := Lib.hid (GU.out.step b4')
    have GV := Lib.hid (GV.out.step b4')
    have B4 := Lib.hid (below_le B3.out b4')
    clear g4 b4'
    go_wp2_with fail
    refine (CU.out _ k _ _ _ _ _ _ hk4 GU.out G4.out).mono ?_
    rintro e w5 ⟨A5, n5, c5, rfl, g5, b5'⟩
    have G5 := Lib.hid g5
    have GU := Lib.hid (GU.out.step b5')
    have GV := Lib.hid (GV.out.step b5')
    have B5 := Lib.hid (below_le B4.out b5')
    clear g5 b5'
    go_wp2_with fail
    refine (C9.out _ _ _ _ G5.out _ _ _ GV.out).mono ?_
    rintro e w' ⟨rfl, rfl⟩
    go_wp2
    go_ret
    exact ⟨by rw [← HNP.out]; rfl, B5.out⟩

end Go.Proofs.YtfcpkdafkmohkaaGreatDoor
namespace Go.Proofs.YtfcpkdafkmohkaaGreatDoor
open Go.RowKit
theorem sc_point {x m : Nat} {two n : Int} (h : PartG x m two) (hn : PointAt (fmag x) big n) : PointAt (scN m two 0) (scD two 0) n := by
 have hf := sc_facts h 0
 have e1 : vV 0 = big := by unfold vV; simp
 have e2 : vU x 0 = fmag x := by unfold vU; simp
 rw [e1, e2] at hf
 exact point_cross big_pos (scD_pos _ _) hf.symm hn
theorem td_lo {z : Int} (h : -34500000 ≤ z) : -345 ≤ z.tdiv 100000 := by
 rcases (show 0 ≤ z ∨ z < 0 by omega) with h1 | h1
 ·rw [Int.tdiv_eq_ediv_of_nonneg h1]
  omega
 ·have e : z = -(-z) := by omega
  rw [e, Int.neg_tdiv, Int.tdiv_eq_ediv_of_nonneg (by omega)]
  omega
theorem ypoint_is {x : Nat} {n : Int} {w : World} (h0 : 0 < x) (hx : x < 9218868437227405312) (hn : PointAt (fmag x) big n) (n1 : -345 ≤ n) (n2 : n ≤ 335) :
  Ct 100 #[.float .f64 x] (.int .i64 n) w := by
 obtain ⟨m, two, hG, hC⟩ := yscaled_fix x hx
 have hP : PartIs x m two := by
  rcases hG with ⟨h, _⟩ | ⟨_, h⟩
  ·omega
  ·exact h
 obtain ⟨q1, q2, q3, q4, q5, q6⟩ := hP.pos
 have hpt := sc_point hG hn
 have hV := scD_pos two 0
 have hU : 0 < scN m two 0 := Nat.mul_pos (Nat.mul_pos q1 (two_pos _)) (ten_pos _)
 have bU : bln (scN m two 0) ≤ 1140 := by
  unfold scN
  rw [show (0 : Int).toNat = 0 by omega, Nat.pow_zero, Nat.mul_one]
  have := bln_mul m (2 ^ two.toNat)
  have := bln_shift (m := m) (k := two.toNat) q1
  omega
 have bV : bln (scD two 0) ≤ 1140 := by
  unfold scD
  rw [show (-(0 : Int)).toNat = 0 by omega, Nat.pow_zero, Nat.mul_one]
  have := bln_pow2 (-two).toNat
  omega
 have hst := start_le hU hV hpt bU bV
 have hC0 := fun W => hC 0 W (by omega) (by omega)
 obtain ⟨U, eU⟩ : ∃ U, scN m two 0 = U := ⟨_, rfl⟩
 obtain ⟨V, eV⟩ : ∃ V, scD two 0 = V := ⟨_, rfl⟩
 unfold ScQ at hC0
 rw [eU, eV] at hC0
 rw [eU] at bU hst hpt hU
 rw [eV] at bV hst hpt hV
 have hm10 : ∀ k, k ≤ 400 → bln (10 ^ k) ≤ 2000 := fun k hk => by have := bln_ten k; omega
 refine ypoint_walk (U := U) (V := V) (bu := bln U) (bv := bln V) (n0 := (((bln U : Int) - bln V) * 30103).tdiv 100000 - 3) (Lib.hid fun W _ => hC0 W)
  (Lib.hid fun W A n' c h => rnbits h (by omega)) (Lib.hid fun W A n' c h => rnbits h (by omega)) (Lib.hid fun W k hk => ypow_any k W (by omega))
  (Lib.hid fun W k A n' c C k' d hk h g => rntimes h g (by omega) (by have := hm10 k hk; omega)) (Lib.hid fun W k A n' c C k' d hk h g => rntimes h g (by omega) (by have := hm10 k hk; omega))
  (Lib.hid fun W k A n' c C k' d hk h g => rncmp h g (by omega) (by have := hm10 k hk; have := bln_mul V (10 ^ k); omega)) (Lib.hid fun W k A n' c C k' d hk h g => rncmp h g (by have := hm10 k hk; have := bln_mul U (10 ^ k); omega) (by omega))
  rfl (by omega) (by omega) rfl rfl rfl ?_ hst (by omega) (Lib.hid ?_) (Lib.hid ?_)
 ·have h1 : -1140 ≤ (bln U : Int) - bln V := by omega
  have h2 := td_lo (z := ((bln U : Int) - bln V) * 30103) (by omega)
  omega
 ·intro k hk hlt
  refine ask_le.1 hlt ?_
  exact le10_down (n - 1 - k).toNat (by rw [show k + (((n - 1 - k).toNat : Nat) : Int) = n - 1 by omega]; exact hpt.1)
 ·exact ask_le.2 hpt.2
theorem ynumber_any {A : Option Addr} {n c v : Nat} {w : World} (hA : NV w A n c v) (hv : bln v ≤ 20000) : Ct 105 #[.slice A n c] (.string (strOf (dL v))) w := by
 have h1 := small_len (v := v) (by omega)
 have C := rtext_any A n c 10 (wds v) w hA.len hA.cap (by have := hA.len; omega) hA.row
 rw [wds_val] at C
 have HC : Hid (Ct 50 #[.slice A n c, .int .i64 10] (.tuple #[.string (strOf (dL v)), .int .i64 0]) w) := Lib.hid (C.mono (by
  rintro e w' ⟨t, k, rfl, ht, hb⟩
  have hbad : ¬ badR 10 := by unfold badR; omega
  rcases ht with ⟨h, _⟩ | ⟨_, h, _⟩ | ⟨_, _, h, rfl⟩
  ·exact absurd h hbad
  ·rw [lng_bln (by omega)] at h
   cases h
  ·rw [text_str h]
   exact ⟨rfl, hb⟩))
 clear C hA
 go_enter Tryz.func105, Tryz.ntmps105
 go_wp2_with fail
 refine HC.out.mono ?_
 rintro e w1 ⟨rfl, b1⟩
 go_wp2
 go_ret
 exact ⟨rfl, b1⟩

end Go.Proofs.YtfcpkdafkmohkaaGreatDoor
namespace Go.Proofs.YtfcpkdafkmohkaaGreatDoor
open Go.RowKit
theorem ywhole_any (k : Nat) (w : World) (hk : k < 9223372036854775808) : Ct 127 #[.int .i64 k] (.string (strOf (dL k))) w := by
 have C1 := Lib.hid (fun W => rnof k (by omega) W)
 have hb : bln k ≤ 64 := bln_le (by omega)
 have C2 := Lib.hid (fun W A a c (h : NV W A a c k) => ynumber_any h (by omega))
 have k1 : IntKind.u64.wrap (k : Int) = (k : Int) := IntWalk.u64_in _ (by omega)
 have k2 : (k : Int) < 9223372036854775808 := by omega
 clear hb hk
 go_enter Tryz.func127, Tryz.ntmps127
 go_wp2_with fail
 refine (C1.out _).mono ?_
 rintro e w1 ⟨A, a, c, rfl, g, b1⟩
 have G := Lib.hid g
 have B1 := Lib.hid b1
 clear g b1
 go_wp2_with fail
 refine (C2.out _ _ _ _ G.out).mono ?_
 rintro e w2 ⟨rfl, b2⟩
 have B2 := Lib.hid (below_le B1.out b2)
 clear b2
 go_wp2
 go_ret
 exact ⟨rfl, B2.out⟩
theorem rep_snoc (k : Nat) : strOf (List.replicate k 48) ++ ⟨#[48]⟩ = strOf (List.replicate (k + 1) 48) := by
 rw [show (⟨#[48]⟩ : ByteArray) = strOf [48] from rfl, strOf_append, List.replicate_succ']
theorem ynoughts_any (n : Nat) (w : World) (hn : n ≤ 1000000) : Cq 65 #[.int .i64 n] (.string (strOf (List.replicate n 48))) w := by
 have hn' : (n : Int) ≤ 1000000 := by omega
 have HN := Lib.hid hn
 clear hn
 go_enter Tryz.func65, Tryz.ntmps65
 go_wp2
 go_loopw [3, 4] (fun s i wr => ∃ (k : Nat) (T : ByteArray), i = .int .i64 k ∧ s = .string T ∧ k ≤ n ∧ Hid (T = strOf (List.replicate k 48)) ∧ w = wr) (fun _ i _ => n - (intOf i).toNat)
 case atStart => exact ⟨0, ⟨#[]⟩, rfl, rfl, by omega, Lib.hid rfl, rfl⟩
 case round =>
  obtain ⟨k, T, rfl, rfl, hk, HT, rfl⟩ := hrel
  by_cases hlt : k < n
  ·have t1 : (k : Int) < (n : Int) := by omega
   have g1 : ¬ 9223372036854775807 < T.size + 1 := by rw [HT.out, strOf_size, List.length_replicate]; have := HN.out; omega
   obtain ⟨T2, hT2⟩ : ∃ T2, T ++ ⟨#[48]⟩ = T2 := ⟨_, rfl⟩
   have HT2 : Hid (T2 = strOf (List.replicate (k + 1) 48)) := Lib.hid (by rw [← hT2, HT.out, rep_snoc])
   go_wp2
   exact ⟨⟨k + 1, T2, by go_num, rfl, by omega, HT2, trivial⟩, by simp [intOf]; omega⟩
  ·obtain rfl : k = n := by omega
   have t1 : decide (k < k) = false := decide_eq_false (by omega)
   go_wp2
   go_ret
   exact ⟨by rw [← HT.out]; rfl, rfl⟩
set_option maxRecDepth 100000 in
set_option maxHeartbeats 1000000 in
theorem yexponent_00 (s H Y G I F : ByteArray) (N k : Nat) (E : Int) (w : World) (hN : s.size = N) (hk : k ≤ 100000) (hE : E = (k : Int)) (hN1 : N = 1) 
  (hH : s.extract 0 1 = H) (hY : H = Y) (hYs : Hid (Y.size ≤ 1000002)) (hG : Y ++ ⟨#[101, 43]⟩ = G) (hGs : Hid (G.size ≤ 1000004)) (hIs : Hid (I.size ≤ 100)) (hF : G ++ I = F)
  (CI : Hid (∀ W, Ct 127 #[.int .i64 k] (.string I) W)) :
  Ct 63 #[.string s, .int .i64 E] (.string F) w := by
 subst hE
 have t0 : ¬ (k : Int) < 0 := by omega
 have t3 : (k : Int) ≤ 100000 := by omega
 subst hY
 have t1 : decide ((1 : Int) < (N : Int)) = false := decide_eq_false (by omega)
 have t4 : (1 : Int) ≤ (N : Int) := by omega
 clear hN1
 have g1 : ¬ 9223372036854775807 < H.size + 2 := by have := hYs.out; omega
 have g2 : ¬ 9223372036854775807 < G.size + I.size := by have := hGs.out; have := hIs.out; omega
 clear hk 

 go_enter Tryz.func63, Tryz.ntmps63
 go_wp2_with fail
 refine (CI.out _).mono ?_
 rintro e w2 ⟨rfl, b2⟩
 have B2 := Lib.hid b2
 clear b2
 go_wp2
 go_ret
 exact ⟨rfl, B2.out⟩
set_option maxRecDepth 100000 in
set_option maxHeartbeats 1000000 in
theorem yexponent_01 (s H D T Y G I F : ByteArray) (N k : Nat) (E : Int) (w : World) (hN : s.size = N) (hk : k ≤ 100000) (hE : E = (k : Int)) (hN1 : 1 < N) (hN2 : N ≤ 1000000) 
  (hH : s.extract 0 1 = H) (hHs : Hid (H.size = 1)) (hD : H ++ ⟨#[46]⟩ = D) (hDs : Hid (D.size = 2)) (hT : s.extract 1 N = T) (hTs : Hid (T.size ≤ 1000000)) (hY : D ++ T = Y) (hYs : Hid (Y.size ≤ 1000002)) (hG : Y ++ ⟨#[101, 43]⟩ = G) (hGs : Hid (G.size ≤ 1000004)) (hIs : Hid (I.size ≤ 100)) (hF : G ++ I = F)
  (CI : Hid (∀ W, Ct 127 #[.int .i64 k] (.string I) W)) :
  Ct 63 #[.string s, .int .i64 E] (.string F) w := by
 subst hE
 have t0 : ¬ (k : Int) < 0 := by omega
 have t3 : (k : Int) ≤ 100000 := by omega
 have t1 : (1 : Int) < (N : Int) := by omega
 have t2 : (N : Int) ≤ 1000000 := by omega
 have t4 : (1 : Int) ≤ (N : Int) := by omega
 have g3 : ¬ 9223372036854775807 < H.size + 1 := by have := hHs.out; omega
 have g4 : ¬ 9223372036854775807 < D.size + T.size := by have := hDs.out; have := hTs.out; omega
 clear hN1 hN2
 have g1 : ¬ 9223372036854775807 < Y.size + 2 := by have := hYs.out; omega
 have g2 : ¬ 9223372036854775807 < G.size + I.size := by have := hGs.out; have := hIs.out; omega
 clear hk 

 go_enter Tryz.func63, Tryz.ntmps63
 go_wp2_with fail
 refine (CI.out _).mono ?_
 rintro e w2 ⟨rfl, b2⟩
 have B2 := Lib.hid b2
 clear b2
 go_wp2
 go_ret
 exact ⟨rfl, B2.out⟩
set_option maxRecDepth 100000 in
set_option maxHeartbeats 1000000 in
theorem yexponent_10 (s H Y G I F : ByteArray) (N k : Nat) (E : Int) (w : World) (hN : s.size = N) (hk : k ≤ 100000) (hE : -E = (k : Int)) (h0 : 0 < k) (hN1 : N = 1) 
  (hH : s.extract 0 1 = H) (hY : H = Y) (hYs : Hid (Y.size ≤ 1000002)) (hG : Y ++ ⟨#[101, 45]⟩ = G) (hGs : Hid (G.size ≤ 1000004)) (hIs : Hid (I.size ≤ 100)) (hF : G ++ I = F)
  (CI : Hid (∀ W, Ct 127 #[.int .i64 k] (.string I) W)) :
  Ct 63 #[.string s, .int .i64 E] (.string F) w := by
 have t0 : E < 0 := by omega
 have t3 : -100000 ≤ E := by omega
 have HE := Lib.hid hE
 subst hY
 have t1 : decide ((1 : Int) < (N : Int)) = false := decide_eq_false (by omega)
 have t4 : (1 : Int) ≤ (N : Int) := by omega
 clear hN1
 have g1 : ¬ 9223372036854775807 < H.size + 2 := by have := hYs.out; omega
 have g2 : ¬ 9223372036854775807 < G.size + I.size := by have := hGs.out; have := hIs.out; omega
 clear hk hE h0
 have hE := HE.out
 go_enter Tryz.func63, Tryz.ntmps63
 go_wp2_with fail
 refine (CI.out _).mono ?_
 rintro e w2 ⟨rfl, b2⟩
 have B2 := Lib.hid b2
 clear b2
 go_wp2
 go_ret
 exact ⟨rfl, B2.out⟩
set_option maxRecDepth 100000 in
set_option maxHeartbeats 1000000 in
theorem yexponent_11 (s H D T Y G I F : ByteArray) (N k : Nat) (E : Int) (w : World) (hN : s.size = N) (hk : k ≤ 100000) (hE : -E = (k : Int)) (h0 : 0 < k) (hN1 : 1 < N) (hN2 : N ≤ 1000000) 
  (hH : s.extract 0 1 = H) (hHs : Hid (H.size = 1)) (hD : H ++ ⟨#[46]⟩ = D) (hDs : Hid (D.size = 2)) (hT : s.extract 1 N = T) (hTs : Hid (T.size ≤ 1000000)) (hY : D ++ T = Y) (hYs : Hid (Y.size ≤ 1000002)) (hG : Y ++ ⟨#[101, 45]⟩ = G) (hGs : Hid (G.size ≤ 1000004)) (hIs : Hid (I.size ≤ 100)) (hF : G ++ I = F)
  (CI : Hid (∀ W, Ct 127 #[.int .i64 k] (.string I) W)) :
  Ct 63 #[.string s, .int .i64 E] (.string F) w := by
 have t0 : E < 0 := by omega
 have t3 : -100000 ≤ E := by omega
 have HE := Lib.hid hE
 have t1 : (1 : Int) < (N : Int) := by omega
 have t2 : (N : Int) ≤ 1000000 := by omega
 have t4 : (1 : Int) ≤ (N : Int) := by omega
 have g3 : ¬ 9223372036854775807 < H.size + 1 := by have := hHs.out; omega
 have g4 : ¬ 9223372036854775807 < D.size + T.size := by have := hDs.out; have := hTs.out; omega
 clear hN1 hN2
 have g1 : ¬ 9223372036854775807 < Y.size + 2 := by have := hYs.out; omega
 have g2 : ¬ 9223372036854775807 < G.size + I.size := by have := hGs.out; have := hIs.out; omega
 clear hk hE h0
 have hE := HE.out
 go_enter Tryz.func63, Tryz.ntmps63
 go_wp2_with fail
 refine (CI.out _).mono ?_
 rintro e w2 ⟨rfl, b2⟩
 have B2 := Lib.hid b2
 clear b2
 go_wp2
 go_ret
 exact ⟨rfl, B2.out⟩
theorem yexponent_any (l : List Nat) (E : Int) (w : World) (hl : ∀ c ∈ l, c < 256) (hn0 : 1 ≤ l.length) (hn : l.length ≤ 1000000) (h1 : -100000 ≤ E) (h2 : E ≤ 100000) :
  Ct 63 #[.string (strOf l), .int .i64 E] (.string (strOf (scL l E))) w := by
 obtain ⟨k, hk⟩ : ∃ k, E.natAbs = k := ⟨_, rfl⟩
 have hI : (strOf (dL k)).size ≤ 100 := by
  rw [strOf_size]
  exact Nat.le_trans (dL_le (k := 6) (by omega) (by omega)) (by omega)
 have hsg : (sgL E).length = 2 := by unfold sgL; split <;> rfl
 have hY : (strOf (mnL l)).size ≤ 1000002 := by rw [strOf_size]; have := mnL_len l; omega
 have hG : (strOf (mnL l ++ sgL E)).size ≤ 1000004 := by
  rw [strOf_size, List.length_append]
  have := mnL_len l
  omega
 have hF : strOf (mnL l ++ sgL E) ++ strOf (dL k) = strOf (scL l E) := by rw [strOf_append, ← hk]; rfl
 have CI := Lib.hid (fun W => ywhole_any k W (by omega))
 have hb := bl_strOf hl
 have hsz := strOf_size l
 have e1 : (strOf l).extract 0 1 = strOf (l.take 1) := by rw [ext_take, hb]
 have e2 : (strOf l).extract 1 l.length = strOf (l.drop 1) := by rw [← hsz, ext_drop, hb]
 have z1 : (strOf (l.take 1)).size = 1 := by rw [strOf_size, List.length_take]; omega
 have z2 : (strOf (l.take 1 ++ [46])).size = 2 := by rw [strOf_size, List.length_append, List.length_take]; simp; omega
 have z3 : (strOf (l.drop 1)).size ≤ 1000000 := by rw [strOf_size, List.length_drop]; omega
 have e3 : strOf (l.take 1) ++ ⟨#[46]⟩ = strOf (l.take 1 ++ [46]) := by rw [dot_str, strOf_append]
 have hYY : ¬ l.length ≤ 1 → strOf (l.take 1 ++ [46]) ++ strOf (l.drop 1) = strOf (mnL l) := by
  intro h
  rw [strOf_append]
  unfold mnL
  rw [if_neg h, List.append_assoc, List.singleton_append]
 have hY1 : l.length ≤ 1 → strOf (l.take 1) = strOf (mnL l) := by
  intro h
  unfold mnL
  rw [if_pos h, List.take_of_length_le h]
 by_cases hE : E < 0
 ·have hs : strOf (mnL l) ++ (⟨#[101, 45]⟩ : ByteArray) = strOf (mnL l ++ sgL E) := by
   unfold sgL
   rw [if_pos hE, ← strOf_append]
   rfl
  by_cases hL : l.length ≤ 1
  ·exact yexponent_10 _ _ _ _ _ _ l.length k E w hsz (by omega) (by omega) (by omega) (by omega) e1 (hY1 hL) (Lib.hid hY) hs (Lib.hid hG) (Lib.hid hI) hF CI
  ·exact yexponent_11 _ _ _ _ _ _ _ _ l.length k E w hsz (by omega) (by omega) (by omega) (by omega) hn e1 (Lib.hid z1) e3 (Lib.hid z2) e2 (Lib.hid z3) (hYY hL) (Lib.hid hY) hs (Lib.hid hG) (Lib.hid hI) hF CI
 ·have hs : strOf (mnL l) ++ (⟨#[101, 43]⟩ : ByteArray) = strOf (mnL l ++ sgL E) := by
   unfold sgL
   rw [if_neg hE, ← strOf_append]
   rfl
  by_cases hL : l.length ≤ 1
  ·exact yexponent_00 _ _ _ _ _ _ l.length k E w hsz (by omega) (by omega) (by omega) e1 (hY1 hL) (Lib.hid hY) hs (Lib.hid hG) (Lib.hid hI) hF CI
  ·exact yexponent_01 _ _ _ _ _ _ _ _ l.length k E w hsz (by omega) (by omega) (by omega) hn e1 (Lib.hid z1) e3 (Lib.hid z2) e2 (Lib.hid z3) (hYY hL) (Lib.hid hY) hs (Lib.hid hG) (Lib.hid hI) hF CI

end Go.Proofs.YtfcpkdafkmohkaaGreatDoor
namespace Go.Proofs.YtfcpkdafkmohkaaGreatDoor
open Go.RowKit
theorem cut_one (s : ByteArray) (k : UInt8) (w : World) : Cq 131 #[.string s, .string ⟨#[k]⟩] (.tuple #[.string (strOf (if (bl s).head? = some k.toNat then (bl s).tail else bl s)), .bool ((bl s).head? == some k.toNat)]) w := by
 refine (Tryz.strings_CutPrefix s ⟨#[k]⟩ w).mono fun e w' h => ⟨?_, h.2.symm⟩
 rw [h.1]
 have e1 := tp_one s k
 have e2 := hp_one s k
 exact congrArg Ending.returned (by rw [show (⟨#[k]⟩ : ByteArray).data.toList = [k] from rfl, e1, e2])
theorem trim_one (s : ByteArray) (k : UInt8) (w : World) : Cq 149 #[.string s, .string ⟨#[k]⟩] (.string (strOf (if (bl s).head? = some k.toNat then (bl s).tail else bl s))) w := by
 refine (Tryz.strings_TrimPrefix s ⟨#[k]⟩ w).mono fun e w' h => ⟨?_, h.2.symm⟩
 rw [h.1]
 have e1 := tp_one s k
 exact congrArg Ending.returned (by rw [show (⟨#[k]⟩ : ByteArray).data.toList = [k] from rfl, e1])
theorem cut_any' (s p : ByteArray) (w : World) : Cq 131 #[.string s, .string p] (.tuple #[.string (strOf (if (bl p).isPrefixOf (bl s) = true then (bl s).drop p.size else bl s)), .bool ((bl p).isPrefixOf (bl s))]) w := by
 refine (Tryz.strings_CutPrefix s p w).mono fun e w' h => ⟨?_, h.2.symm⟩
 rw [h.1, tp_any, hp_any]
def sgF (b : Bool) : Nat := if b = true then 13830554455654793216 else 4607182418800017408
theorem tcutSign_any (s : ByteArray) (w : World) : Cq 84 #[.string s] (.tuple #[.float .f64 (sgF (sgnB (bl s)) : Nat), .string (strOf (unsg (bl s)))]) w := by
 have C1 := Lib.hid (cut_one s 45 w)
 have C2 := Lib.hid (trim_one s 43 w)
 have h1 : ((bl s).head? == some (45 : UInt8).toNat) = sgnB (bl s) := rfl
 rw [h1] at C1
 cases h : sgnB (bl s)
 ·rw [h] at C1
  have e1 : unsg (bl s) = if (bl s).head? = some (43 : UInt8).toNat then (bl s).tail else bl s := by
   have h2 : ¬ (bl s).head? = some 45 := by
    intro e
    unfold sgnB at h
    rw [e] at h
    simp at h
   unfold unsg
   by_cases h3 : (bl s).head? = some 43
   ·rw [if_pos (Or.inr h3)]; exact (if_pos h3).symm
   ·rw [if_neg (by rintro (h4 | h4); exact h2 h4; exact h3 h4)]; exact (if_neg h3).symm
  rw [← e1] at C2
  obtain ⟨t, ht⟩ : ∃ t, strOf (unsg (bl s)) = t := ⟨_, rfl⟩
  rw [ht] at C2 ⊢
  obtain ⟨t1, ht1⟩ : ∃ t1, strOf (if (bl s).head? = some (45 : UInt8).toNat then (bl s).tail else bl s) = t1 := ⟨_, rfl⟩
  rw [ht1] at C1
  clear h h1 e1 ht ht1
  go_enter Tryz.func84, Tryz.ntmps84
  go_wp2_with fail
  refine C1.out.mono ?_
  rintro e w' ⟨rfl, rfl⟩
  go_wp2_with fail
  refine C2.out.mono ?_
  rintro e w' ⟨rfl, rfl⟩
  go_wp2
  go_ret2
  exact ⟨rfl, rfl⟩
 ·rw [h] at C1
  have e1 : unsg (bl s) = if (bl s).head? = some (45 : UInt8).toNat then (bl s).tail else bl s := by
   have h2 : (bl s).head? = some 45 := by
    unfold sgnB at h
    exact beq_iff_eq.1 h
   unfold unsg
   rw [if_pos (Or.inl h2)]
   exact (if_pos h2).symm
  rw [← e1] at C1
  obtain ⟨t, ht⟩ : ∃ t, strOf (unsg (bl s)) = t := ⟨_, rfl⟩
  rw [ht] at C1 ⊢
  clear h h1 e1 ht C2
  go_enter Tryz.func84, Tryz.ntmps84
  go_wp2_with fail
  refine C1.out.mono ?_
  rintro e w' ⟨rfl, rfl⟩
  go_wp2
  go_ret2
  exact ⟨rfl, rfl⟩
theorem two_ahead (a b : Nat) (l : List Nat) : [a, b].isPrefixOf l = (l.head? == some a && l.tail.head? == some b) := by
 cases l with
 | nil => rfl
 | cons c r =>
  cases r with
  | nil =>
   show (a == c && false) = (some c == some a && (none : Option Nat) == some b)
   rw [Bool.eq_iff_iff]; simp
  | cons d q =>
   show (a == c && (b == d && true)) = (some c == some a && some d == some b)
   rw [Bool.eq_iff_iff]
   simp only [Bool.and_true, Bool.and_eq_true, beq_iff_eq, Option.some.injEq]
   exact ⟨fun e => ⟨e.1.symm, e.2.symm⟩, fun e => ⟨e.1.symm, e.2.symm⟩⟩
theorem tcutHex_any (s : ByteArray) (w : World) : Cq 85 #[.string s] (.tuple #[.string (strOf (if hxA (bl s) = true then (bl s).drop 2 else bl s)), .bool (hxA (bl s))]) w := by
 have C1 := Lib.hid (cut_any' s ⟨#[48, 120]⟩ w)
 have C2 := Lib.hid (cut_any' s ⟨#[48, 88]⟩ w)
 have h1 : (bl ⟨#[48, 120]⟩).isPrefixOf (bl s) = ((bl s).head? == some 48 && (bl s).tail.head? == some 120) := two_ahead 48 120 (bl s)
 have h2 : (bl ⟨#[48, 88]⟩).isPrefixOf (bl s) = ((bl s).head? == some 48 && (bl s).tail.head? == some 88) := two_ahead 48 88 (bl s)
 have hx : hxA (bl s) = ((bl ⟨#[48, 120]⟩).isPrefixOf (bl s) || (bl ⟨#[48, 88]⟩).isPrefixOf (bl s)) := by
  rw [h1, h2]; unfold hxA; cases ((bl s).head? == some 48) <;> rfl
 rw [hx]
 clear h1 h2 hx
 obtain ⟨p, hp⟩ : ∃ p, (bl ⟨#[48, 120]⟩).isPrefixOf (bl s) = p := ⟨_, rfl⟩
 obtain ⟨q, hq⟩ : ∃ q, (bl ⟨#[48, 88]⟩).isPrefixOf (bl s) = q := ⟨_, rfl⟩
 rw [hp] at C1
 rw [hq] at C2
 rw [hp, hq]
 rw [show (⟨#[48, 120]⟩ : ByteArray).size = 2 from rfl] at C1
 rw [show (⟨#[48, 88]⟩ : ByteArray).size = 2 from rfl] at C2
 clear hp hq
 cases p
 ·rw [if_neg (by simp)] at C1
  rw [Bool.false_or]
  obtain ⟨t, ht⟩ : ∃ t, strOf (if q = true then (bl s).drop 2 else bl s) = t := ⟨_, rfl⟩
  rw [ht] at C2 ⊢
  obtain ⟨t1, ht1⟩ : ∃ t1, strOf (bl s) = t1 := ⟨_, rfl⟩
  clear ht ht1
  go_enter Tryz.func85, Tryz.ntmps85
  go_wp2_with fail
  refine C1.out.mono ?_
  rintro e w' ⟨rfl, rfl⟩
  go_wp2_with fail
  refine C2.out.mono ?_
  rintro e w' ⟨rfl, rfl⟩
  go_wp2
  go_ret2
  exact ⟨rfl, rfl⟩
 ·rw [if_pos rfl] at C1
  rw [Bool.true_or, if_pos rfl]
  obtain ⟨t, ht⟩ : ∃ t, strOf ((bl s).drop 2) = t := ⟨_, rfl⟩
  rw [ht] at C1 ⊢
  clear ht C2
  go_enter Tryz.func85, Tryz.ntmps85
  go_wp2_with fail
  refine C1.out.mono ?_
  rintro e w' ⟨rfl, rfl⟩
  go_wp2
  go_ret2
  exact ⟨rfl, rfl⟩

end Go.Proofs.YtfcpkdafkmohkaaGreatDoor
namespace Go.Proofs.YtfcpkdafkmohkaaGreatDoor
open Go.RowKit
theorem low_trim (s : ByteArray) {r : Nat} (hr : r ≤ 36) (w : World) : Ct 133 #[.string s, .string (lowS r)] (.string (strOf ((bl s).dropWhile (ldq r)))) w := by
 have h := Tryz.strings_TrimLeft_laid s (lowS r) w (by rw [low_small hr]; omega) (low_asc hr)
 rw [tl_low hr s] at h
 exact h
theorem drop_len_le (p : Nat → Bool) (l : List Nat) : (l.dropWhile p).length ≤ l.length := (List.dropWhile_sublist p).length_le
set_option maxRecDepth 100000 in
theorem tcutDigits_any (s : ByteArray) (r : Nat) (w : World) (hr : r ≤ 36) (hs : s.size ≤ 4611686018427387903) :
  Ct 86 #[.string s, .int .i64 r] (.tuple #[.string (strOf ((bl s).takeWhile (ldq r))), .string (strOf ((bl s).dropWhile (ldq r)))]) w := by
 have C1 := Lib.hid (low_trim s hr w)
 unfold lowS at C1
 have hle := drop_len_le (ldq r) (bl s)
 rw [bl_size] at hle
 have hk := take_run (ldq r) (bl s)
 rw [bl_size] at hk
 have hsz := strOf_size ((bl s).dropWhile (ldq r))
 obtain ⟨t, ht⟩ : ∃ t, strOf ((bl s).dropWhile (ldq r)) = t := ⟨_, rfl⟩
 rw [ht] at C1 hsz ⊢
 obtain ⟨k, hk2⟩ : ∃ k, s.size - t.size = k := ⟨_, rfl⟩
 have HE := Lib.hid (show s.extract 0 k = strOf ((bl s).takeWhile (ldq r)) from by rw [ext_take, ← hk, ← hk2, hsz])
 have h1 : (t.size : Int) ≤ (s.size : Int) := by omega
 have h2 : (s.size : Int) ≤ 4611686018427387903 := by omega
 have h3 : (s.size : Int) - (t.size : Int) = (k : Int) := by omega
 have h4 : (k : Int) ≤ (s.size : Int) := by omega
 have hr1 : (r : Int) ≤ 36 := by omega
 rw [← HE.out]
 clear hle hk hsz ht hk2 hr hs
 go_enter Tryz.func86, Tryz.ntmps86
 go_wp2_with fail
 refine C1.out.mono ?_
 rintro e w' ⟨rfl, hb⟩
 go_wp2
 go_ret2
 exact ⟨rfl, hb⟩
set_option maxRecDepth 100000 in
set_option maxHeartbeats 1000000 in
theorem tamount_any (s : ByteArray) (w : World) (hs : s.size ≤ 4611686018427387903) (hd : ∀ c ∈ bl s, dg10 c = true) :
  Cq 192 #[.string s] (.int .i64 (amt (bl s) : Nat)) w := by
 have h2 : (s.size : Int) ≤ 4611686018427387903 := by omega
 have HD := Lib.hid hd
 clear hd hs
 go_enter Tryz.func192, Tryz.ntmps192
 go_wp2
 go_loopw [3, 7] (fun nv i wr => ∃ k : Nat, i = .int .i64 k ∧ k ≤ s.size ∧ nv = .int .i64 (amt ((bl s).take k) : Nat) ∧ w = wr) (fun _ i _ => s.size - (intOf i).toNat)
 case atStart => exact ⟨0, rfl, Nat.zero_le _, rfl, rfl⟩
 case round =>
  obtain ⟨k, rfl, hk, rfl, rfl⟩ := hrel
  by_cases hlt : k < s.size
  ·obtain ⟨B, hB⟩ : ∃ B : Nat, (s[k]'hlt).toNat = B := ⟨_, rfl⟩
   have hget : (bl s)[k]? = some B := by rw [bl_get s k hlt, hB]
   have hdB := dg10_iff.1 (HD.out B (List.mem_of_getElem? hget))
   obtain ⟨N, hN⟩ : ∃ N, amt ((bl s).take k) = N := ⟨_, rfl⟩
   have hNl : N < 10995116277760 := by rw [← hN]; exact amt_lt _ (fun c hc => HD.out c (List.mem_of_mem_take hc))
   have hstep : amt ((bl s).take (k + 1)) = amtS N B := by rw [List.take_add_one, hget, ← hN]; exact amt_snoc _ _
   rw [hN]
   have a1 : (0 : Int) ≤ (k : Int) := by omega
   have a2 : (k : Int) < (s.size : Int) := by omega
   have a3 : ((s[k]'hlt).toNat : Int) = (B : Int) := by rw [hB]
   obtain ⟨D, hD⟩ : ∃ D : Nat, B - 48 = D := ⟨_, rfl⟩
   have a4 : IntKind.u8.wrap ((B : Int) - 48) = (D : Int) := by rw [IntWalk.u8_in _ (by omega)]; omega
   have a5 : IntKind.i64.wrap (D : Int) = (D : Int) := IntWalk.i64_in _ (by omega)
   by_cases hc : N < 1099511627776
   ·obtain ⟨M, hM⟩ : ∃ M : Nat, N * 10 + D = M := ⟨_, rfl⟩
    have HS := Lib.hid (show amt ((bl s).take (k + 1)) = M from by rw [hstep]; unfold amtS; rw [if_pos hc, hD, hM])
    have a6 : IntKind.i64.wrap (10 * (N : Int)) = 10 * (N : Int) := IntWalk.i64_in _ (by omega)
    have a7 : IntKind.i64.wrap (10 * (N : Int) + (D : Int)) = (M : Int) := by rw [IntWalk.i64_in _ (by omega)]; omega
    have t1 : decide ((N : Int) < 1099511627776) = true := decide_eq_true (by omega)
    clear hget hdB hN hNl hstep hB hD hM hc HD hk
    go_wp2
    exact ⟨⟨k + 1, by go_num, by omega, by rw [HS.out], trivial⟩, by simp [intOf]; omega⟩
   ·have HS := Lib.hid (show amt ((bl s).take (k + 1)) = N from by rw [hstep]; unfold amtS; rw [if_neg hc])
    have t1 : decide ((N : Int) < 1099511627776) = false := decide_eq_false (by omega)
    clear hget hdB hN hNl hstep hB hD hc HD hk a3 a4 a5
    go_wp2
    exact ⟨⟨k + 1, by go_num, by omega, by rw [HS.out], trivial⟩, by simp [intOf]; omega⟩
  ·have HZ := Lib.hid (show (bl s).take k = bl s from List.take_of_length_le (by rw [bl_size]; omega))
   go_wp2
   go_ret
   exact ⟨by rw [HZ.out]; rfl, rfl⟩
def sgI (b : Bool) : Int := if b = true then -1 else 1
set_option maxRecDepth 100000 in
theorem conv_sg (b : Bool) : ∀ W : World, (convert 22 3 (.float .f64 (sgF b))).run Tryz.prog W = .ok (.int .i64 (sgI b)) W := by
 intro W
 cases b
 ·rfl
 ·rfl
theorem tail_sub {l : List Nat} : ∀ c ∈ l.tail, c ∈ l := fun _ h => List.mem_of_mem_tail h
theorem unsg_sub {l : List Nat} : ∀ c ∈ unsg l, c ∈ l := by
 intro c h
 unfold unsg at h
 split at h
 ·exact tail_sub c h
 ·exact h
theorem run_sub {l : List Nat} : ∀ c ∈ run10 l, c ∈ l := fun _ h => (List.takeWhile_sublist _).subset h
theorem aft_sub {l : List Nat} : ∀ c ∈ aft10 l, c ∈ l := fun _ h => (List.dropWhile_sublist _).subset h
theorem unsg_len (l : List Nat) : (unsg l).length ≤ l.length := by
 unfold unsg
 split
 ·rw [List.length_tail]; omega
 ·omega
theorem ldq_dg : ldq 10 = dg10 := funext ldq_ten
theorem str_ne {l : List Nat} (h : l ≠ []) : ¬ (strOf l).toList = [] ∧ (strOf l).toList.isEmpty = false := by
 have h1 : ¬ (strOf l).toList = [] := by
  rw [Lib.toList_data]
  unfold strOf
  simpa using h
 refine ⟨h1, ?_⟩
 cases hh : (strOf l).toList with
 | nil => exact absurd hh h1
 | cons => rfl
theorem cut_ten (l : List Nat) (w : World) (hl : ∀ c ∈ l, c < 256) (hs : l.length ≤ 4611686018427387903) :
  Ct 86 #[.string (strOf l), .int .i64 10] (.tuple #[.string (strOf (run10 l)), .string (strOf (aft10 l))]) w := by
 have h := tcutDigits_any (strOf l) 10 w (by omega) (by rw [strOf_size]; exact hs)
 rw [bl_strOf hl, ldq_dg] at h
 exact h
theorem expB_no {l : List Nat} (h : ¬ (l.head? = some 101 ∨ l.head? = some 69)) : expB l = false := by
 unfold expB
 have h1 : (l.head? == some 101) = false := beq_eq_false_iff_ne.2 (fun e => h (Or.inl e))
 have h2 : (l.head? == some 69) = false := beq_eq_false_iff_ne.2 (fun e => h (Or.inr e))
 rw [h1, h2]; rfl
theorem expB_is {l : List Nat} (h : l.head? = some 101 ∨ l.head? = some 69) : expB l = !(run10 (unsg l.tail)).isEmpty := by
 unfold expB
 have h1 : (l.head? == some 101 || l.head? == some 69) = true := by
  rcases h with h | h
  ·rw [h]; rfl
  ·rw [h]; rfl
 rw [h1, Bool.true_and]
def ExpQ (l : List Nat) (w : World) (e : Ending) (w' : World) : Prop :=
 e = .returned (.tuple #[.int .i64 (exV l), .string (strOf (if expB l = true then expR l else [])), .bool (expB l)]) ∧ Below w.heap.size w w'
theorem ExpQ.no {l : List Nat} {w w' : World} (h : expB l = false) (hb : Below w.heap.size w w') : ExpQ l w (.returned (.tuple #[.int .i64 0, .string ⟨#[]⟩, .bool false])) w' := by
 refine ⟨?_, hb⟩
 unfold exV
 rw [h, if_neg (by simp), if_neg (by simp)]
 rfl
theorem ExpQ.yes {l : List Nat} {w w' : World} (h : expB l = true) (hb : Below w.heap.size w w') : ExpQ l w (.returned (.tuple #[.int .i64 (expV l), .string (strOf (expR l)), .bool true])) w' := by
 refine ⟨?_, hb⟩
 unfold exV
 rw [h, if_pos rfl, if_pos rfl]
set_option maxRecDepth 100000 in
set_option maxHeartbeats 1000000 in
theorem tcutExponent_any (s : ByteArray) (w : World) (hs : s.size ≤ 4611686018427387903) :
  Cp 132 #[.string s] w (ExpQ (bl s) w) := by
 have h2 : (s.size : Int) ≤ 4611686018427387903 := by omega
 by_cases h0 : s.size = 0
 ·have hnil : bl s = [] := List.eq_nil_of_length_eq_zero (by rw [bl_size]; exact h0)
  have hE := ExpQ.no (l := bl s) (expB_no (by rw [hnil]; simp)) (Below.refl w.heap.size w)
  have hz : s = ⟨#[]⟩ := by
   have := strOf_bl s
   rw [hnil] at this
   exact this.symm
  clear hnil
  subst hz
  have HE := Lib.hid hE
  clear hE h0 hs h2
  go_enter Tryz.func132, Tryz.ntmps132
  go_wp2
  refine bodyPost_ret (results_tmp3 rfl _ _ _) rfl ?_
  exact HE.out
 ·have hp : 0 < s.size := by omega
  obtain ⟨B, hB⟩ : ∃ B : Nat, (s[0]'hp).toNat = B := ⟨_, rfl⟩
  have hhd : (bl s).head? = some B := by rw [List.head?_eq_getElem?, bl_get s 0 hp, hB]
  have a2 : (0 : Int) < (s.size : Int) := by omega
  have a3 : ((s[0]'hp).toNat : Int) = (B : Int) := by rw [hB]
  have hne := str_ne (l := bl s) (by intro e; rw [e] at hhd; cases hhd)
  rw [strOf_bl] at hne
  obtain ⟨n1, n2⟩ := hne
  by_cases hc : B = 101 ∨ B = 69
  ·have hx := expB_is (l := bl s) (by rw [hhd]; rcases hc with h | h <;> simp [h])
   have e1 : bl (s.extract 1 s.size) = (bl s).tail := by rw [bl_drop]; exact List.drop_one
   have C1 := Lib.hid (tcutSign_any (s.extract 1 s.size) w)
   rw [e1] at C1
   obtain ⟨U, hU⟩ : ∃ U, unsg (bl s).tail = U := ⟨_, rfl⟩
   rw [hU] at C1 hx
   have hU2 : ∀ c ∈ U, c < 256 := fun c h => bl_lt s c (tail_sub c (unsg_sub c (by rw [hU]; exact h)))
   have hU3 : U.length ≤ 4611686018427387903 := by
    have k1 := unsg_len (bl s).tail
    rw [hU, List.length_tail, bl_size] at k1
    omega
   have C2 := Lib.hid (cut_ten U w hU2 hU3)
   have hR := run10_all U
   have hRl := run_len U
   have hR2 : ∀ c ∈ run10 U, c < 256 := fun c h => hU2 c (run_sub c h)
   have hV : expV (bl s) = if sgnB (bl s).tail = true then -(amt (run10 U) : Int) else (amt (run10 U) : Int) := by unfold expV; rw [hU]
   have hT : expR (bl s) = aft10 U := by unfold expR; rw [hU]
   obtain ⟨b, hb⟩ : ∃ b, sgnB (bl s).tail = b := ⟨_, rfl⟩
   rw [hb] at C1 hV
   obtain ⟨R, hRR⟩ : ∃ R, run10 U = R := ⟨_, rfl⟩
   rw [hRR] at C2 hR hRl hR2 hV hx
   have m1 : ∀ W, Cq 84 #[.string (s.extract 1 s.size)] (.tuple #[.float .f64 (sgF b : Nat), .string (strOf U)]) W := by
    intro W
    have := tcutSign_any (s.extract 1 s.size) W
    rw [e1, hU, hb] at this
    exact this
   by_cases hR0 : R = []
   ·have HE := Lib.hid (fun w' => ExpQ.no (l := bl s) (w := w) (w' := w') (by rw [hx, hR0]; rfl))
    rw [hR0, strOf_nil] at C2
    rw [show ByteArray.empty = (⟨#[]⟩ : ByteArray) from rfl] at C2
    obtain ⟨u, hu⟩ : ∃ u, strOf U = u := ⟨_, rfl⟩
    obtain ⟨v, hv⟩ : ∃ v, strOf (aft10 U) = v := ⟨_, rfl⟩
    rw [hu] at C1 C2
    rw [hv] at C2
    clear hx e1 hU hU2 hU3 hR hRl hR2 hV hT hb hRR hR0 hu hv hhd hB hs m1 h0
    have t1 : ((B : Int) != 101 && (B : Int) != 69) = false := by rcases hc with rfl | rfl <;> rfl
    have t2 : (B = 101 ∧ ((B : Int) != 101) = false) ∨ (((B : Int) != 101) = true ∧ ((B : Int) != 69) = false) := by rcases hc with rfl | rfl <;> simp
    clear hc
    rcases t2 with ⟨_, t2⟩ | ⟨t2, t3⟩
    ·go_enter Tryz.func132, Tryz.ntmps132
     go_wp2_with fail
     refine C1.out.mono ?_
     rintro e w' ⟨rfl, rfl⟩
     go_wp2_with fail
     refine C2.out.mono ?_
     rintro e w' ⟨rfl, hbw⟩
     go_wp2
     refine bodyPost_ret (results_tmp3 rfl _ _ _) rfl ?_
     exact HE.out _ hbw
    ·go_enter Tryz.func132, Tryz.ntmps132
     go_wp2_with fail
     refine C1.out.mono ?_
     rintro e w' ⟨rfl, rfl⟩
     go_wp2_with fail
     refine C2.out.mono ?_
     rintro e w' ⟨rfl, hbw⟩
     go_wp2
     refine bodyPost_ret (results_tmp3 rfl _ _ _) rfl ?_
     exact HE.out _ hbw
   ·have HE := Lib.hid (fun w' => ExpQ.yes (l := bl s) (w := w) (w' := w') (by rw [hx]; cases R with | nil => exact absurd rfl hR0 | cons => rfl))
    obtain ⟨r1, r2⟩ := str_ne hR0
    have C3 := Lib.hid (fun W => tamount_any (strOf R) W (by rw [strOf_size]; omega) (by rw [bl_strOf hR2]; exact hR))
    rw [bl_strOf hR2] at C3
    have hal := amt_lt R hR
    obtain ⟨N, hN⟩ : ∃ N, amt R = N := ⟨_, rfl⟩
    rw [hN] at C3 hal hV
    have K1 := Lib.hid (conv_sg b)
    have a5 : IntKind.i64.wrap (sgI b * (N : Int)) = expV (bl s) := by
     rw [hV]
     cases b
     ·rw [if_neg (by simp), show sgI false = 1 from rfl, IntWalk.i64_in _ (by omega)]; omega
     ·rw [if_pos rfl, show sgI true = -1 from rfl, IntWalk.i64_in _ (by omega)]; omega
    obtain ⟨X, hX⟩ : ∃ X, expV (bl s) = X := ⟨_, rfl⟩
    rw [hX] at HE a5
    rw [hT] at HE
    obtain ⟨u, hu⟩ : ∃ u, strOf U = u := ⟨_, rfl⟩
    obtain ⟨v, hv⟩ : ∃ v, strOf (aft10 U) = v := ⟨_, rfl⟩
    obtain ⟨f, hf⟩ : ∃ f, strOf R = f := ⟨_, rfl⟩
    rw [hu] at C1 C2
    rw [hv] at C2 HE
    rw [hf] at C2 C3 r1 r2
    have K1 := K1.out
    have t2 : (B = 101 ∧ ((B : Int) != 101) = false) ∨ (((B : Int) != 101) = true ∧ ((B : Int) != 69) = false) := by rcases hc with rfl | rfl <;> simp
    clear hx e1 hU hU2 hU3 hR hRl hR2 hV hT hb hRR hR0 hu hv hf hhd hB hs m1 h0 hc hN hal hX
    rcases t2 with ⟨_, t2⟩ | ⟨t2, t3⟩
    ·go_enter Tryz.func132, Tryz.ntmps132
     go_wp2_with fail
     refine C1.out.mono ?_
     rintro e w' ⟨rfl, rfl⟩
     go_wp2_with fail
     refine C2.out.mono ?_
     rintro e w' ⟨rfl, hbw⟩
     go_wp2_with fail
     refine (C3.out _).mono ?_
     rintro e w' ⟨rfl, rfl⟩
     go_wp2
     refine bodyPost_ret (results_tmp3 rfl _ _ _) rfl ?_
     exact HE.out _ hbw
    ·go_enter Tryz.func132, Tryz.ntmps132
     go_wp2_with fail
     refine C1.out.mono ?_
     rintro e w' ⟨rfl, rfl⟩
     go_wp2_with fail
     refine C2.out.mono ?_
     rintro e w' ⟨rfl, hbw⟩
     go_wp2_with fail
     refine (C3.out _).mono ?_
     rintro e w' ⟨rfl, rfl⟩
     go_wp2
     refine bodyPost_ret (results_tmp3 rfl _ _ _) rfl ?_
     exact HE.out _ hbw
  ·have HE := Lib.hid (ExpQ.no (l := bl s) (expB_no (by rw [hhd]; rintro (h | h) <;> exact hc (by simp at h; omega))) (Below.refl w.heap.size w))
   have t1 : ((B : Int) != 101) = true := by rw [bne_iff_ne]; omega
   have t2 : ((B : Int) != 69) = true := by rw [bne_iff_ne]; omega
   clear hhd hB hs hc h0
   go_enter Tryz.func132, Tryz.ntmps132
   go_wp2
   refine bodyPost_ret (results_tmp3 rfl _ _ _) rfl ?_
   exact HE.out

end Go.Proofs.YtfcpkdafkmohkaaGreatDoor
namespace Go.Proofs.YtfcpkdafkmohkaaGreatDoor
open Go.RowKit
theorem expq_no {l : List Nat} {w w' : World} {e : Ending} (h : ExpQ l w e w') (hb : expB l = false) : e = .returned (.tuple #[.int .i64 0, .string ⟨#[]⟩, .bool false]) ∧ Below w.heap.size w w' := by
 obtain ⟨h1, h2⟩ := h
 refine ⟨?_, h2⟩
 rw [h1]
 unfold exV
 rw [hb, if_neg (by simp), if_neg (by simp)]
 rfl
theorem expq_yes {l : List Nat} {w w' : World} {e : Ending} (h : ExpQ l w e w') (hb : expB l = true) : e = .returned (.tuple #[.int .i64 (expV l), .string (strOf (expR l)), .bool true]) ∧ Below w.heap.size w w' := by
 obtain ⟨h1, h2⟩ := h
 refine ⟨?_, h2⟩
 rw [h1]
 unfold exV
 rw [hb, if_pos rfl, if_pos rfl]
def DecQ (l : List Nat) (w : World) (e : Ending) (w' : World) : Prop :=
 e = .returned (.tuple #[.agg #[.string (strOf (dW l)), .string (strOf (dF l)), .int .i64 (dX l)], .string (strOf (dR l)), .bool true]) ∧ Below w.heap.size w w'
theorem tcutDecimal_yes (s : ByteArray) (w : World) (hs : s.size ≤ 4611686018427387903) (h : dB (bl s) = true) : Cp 68 #[.string s] w (DecQ (bl s) w) := by
 obtain ⟨l, hl⟩ : ∃ l, bl s = l := ⟨_, rfl⟩
 have hlt := bl_lt s
 have hlen := bl_size s
 rw [hl] at h hlt hlen ⊢
 have hA : ∀ c ∈ aft10 l, c < 256 := fun c hc => hlt c (aft_sub c hc)
 have hAl := run_len l
 have C1 := fun W => tcutDigits_any s 10 W (by omega) hs
 rw [hl, ldq_dg] at C1
 have C2 := fun W => cut_one (strOf (aft10 l)) 46 W
 rw [bl_strOf hA] at C2
 have e2 : ((aft10 l).head? == some (46 : UInt8).toNat) = dotB (aft10 l) := rfl
 rw [e2] at C2
 have key : ∀ T : List Nat, (∀ c ∈ T, c < 256) → T.length ≤ 4611686018427387903 → ∀ W, Cp 132 #[.string (strOf T)] W (ExpQ T W) := by
  intro T h1 h2 W
  have := tcutExponent_any (strOf T) W (by rw [strOf_size]; exact h2)
  rw [bl_strOf h1] at this
  exact this
 have ne : ∀ R : List Nat, R ≠ [] → (strOf R).toList.isEmpty = false := fun R hR => (str_ne hR).2
 cases hd : dotB (aft10 l)
 ·rw [hd] at C2
  have hF : dF l = [] := by unfold dF; rw [hd, if_neg (by simp)]
  have hT : dT l = aft10 l := by unfold dT; rw [hd, if_neg (by simp)]
  have hW : dW l ≠ [] := by
   intro e
   unfold dB at h
   rw [hF, e] at h
   simp at h
  have C3 := key (aft10 l) hA (by omega)
  unfold DecQ
  have hX : dX l = exV (aft10 l) := by unfold dX; rw [hT]
  have hR : dR l = exR (aft10 l) := by unfold dR; rw [hT]
  rw [hF, hX, hR]
  unfold exV exR
  cases hb : expB (aft10 l)
  ·rw [if_neg (by simp), if_neg (by simp)]
   exact tcutDecimal_a_false s w _ _ _ _ 0 (ne _ hW) (Lib.hid C1) (Lib.hid C2) (Lib.hid (fun W => (C3 W).mono fun e w' x => expq_no x hb))
  ·rw [if_pos rfl, if_pos rfl]
   exact tcutDecimal_a_true s w _ _ _ _ _ (ne _ hW) (Lib.hid C1) (Lib.hid C2) (Lib.hid (fun W => (C3 W).mono fun e w' x => expq_yes x hb))
 ·rw [hd] at C2
  have hh : (aft10 l).head? = some (46 : UInt8).toNat := beq_iff_eq.1 hd
  rw [if_pos hh] at C2
  have hF : dF l = run10 (aft10 l).tail := by unfold dF; rw [hd, if_pos rfl]
  have hT : dT l = aft10 (aft10 l).tail := by unfold dT; rw [hd, if_pos rfl]
  have hA2 : ∀ c ∈ (aft10 l).tail, c < 256 := fun c hc => hA c (tail_sub c hc)
  have hl2 : (aft10 l).tail.length ≤ 4611686018427387903 := by rw [List.length_tail]; omega
  have C4 := fun W => cut_ten (aft10 l).tail W hA2 hl2
  have hl3 := run_len (aft10 l).tail
  have C3 := key (aft10 (aft10 l).tail) (fun c hc => hA2 c (aft_sub c hc)) (by omega)
  unfold DecQ
  have hX : dX l = exV (aft10 (aft10 l).tail) := by unfold dX; rw [hT]
  have hR : dR l = exR (aft10 (aft10 l).tail) := by unfold dR; rw [hT]
  rw [hF, hX, hR]
  unfold exV exR
  by_cases hW : run10 l = []
  ·have hF2 : run10 (aft10 l).tail ≠ [] := by
    intro e
    unfold dB dW at h
    rw [hF, e, hW] at h
    simp at h
   have C1 : ∀ W, Ct 86 #[.string s, .int .i64 10] (.tuple #[.string ⟨#[]⟩, .string (strOf (aft10 l))]) W := by
    have C1' : ∀ W, Ct 86 #[.string s, .int .i64 10] (.tuple #[.string (strOf (run10 l)), .string (strOf (aft10 l))]) W := C1
    rw [hW] at C1'
    exact C1'
   unfold dW
   rw [hW]
   cases hb : expB (aft10 (aft10 l).tail)
   ·rw [if_neg (by simp), if_neg (by simp)]
    exact tcutDecimal_b1_false s w _ _ _ _ ⟨#[]⟩ 0 (ne _ hF2) (Lib.hid C1) (Lib.hid C2) (Lib.hid C4) (Lib.hid (fun W => (C3 W).mono fun e w' x => expq_no x hb))
   ·rw [if_pos rfl, if_pos rfl]
    exact tcutDecimal_b1_true s w _ _ _ _ _ _ (ne _ hF2) (Lib.hid C1) (Lib.hid C2) (Lib.hid C4) (Lib.hid (fun W => (C3 W).mono fun e w' x => expq_yes x hb))
  ·cases hb : expB (aft10 (aft10 l).tail)
   ·rw [if_neg (by simp), if_neg (by simp)]
    exact tcutDecimal_b0_false s w _ _ _ _ _ ⟨#[]⟩ 0 (ne _ hW) (Lib.hid C1) (Lib.hid C2) (Lib.hid C4) (Lib.hid (fun W => (C3 W).mono fun e w' x => expq_no x hb))
   ·rw [if_pos rfl, if_pos rfl]
    exact tcutDecimal_b0_true s w _ _ _ _ _ _ _ (ne _ hW) (Lib.hid C1) (Lib.hid C2) (Lib.hid C4) (Lib.hid (fun W => (C3 W).mono fun e w' x => expq_yes x hb))
theorem tcutDecimal_no (s : ByteArray) (w : World) (hs : s.size ≤ 4611686018427387903) (h : dB (bl s) = false) :
  Cp 68 #[.string s] w (fun e w' => e = .returned (.tuple #[.agg #[.string ⟨#[]⟩, .string ⟨#[]⟩, .int .i64 0], .string ⟨#[]⟩, .bool false]) ∧ Below w.heap.size w w') := by
 obtain ⟨l, hl⟩ : ∃ l, bl s = l := ⟨_, rfl⟩
 have hlt := bl_lt s
 have hlen := bl_size s
 rw [hl] at h hlt hlen
 have hA : ∀ c ∈ aft10 l, c < 256 := fun c hc => hlt c (aft_sub c hc)
 have hAl := run_len l
 have C1 : ∀ W, Ct 86 #[.string s, .int .i64 10] (.tuple #[.string (strOf (run10 l)), .string (strOf (aft10 l))]) W := by
  intro W
  have := tcutDigits_any s 10 W (by omega) hs
  rw [hl, ldq_dg] at this
  exact this
 have C2 := fun W => cut_one (strOf (aft10 l)) 46 W
 rw [bl_strOf hA] at C2
 have e2 : ((aft10 l).head? == some (46 : UInt8).toNat) = dotB (aft10 l) := rfl
 rw [e2] at C2
 unfold dB dW at h
 have hW : run10 l = [] := by
  cases hr : run10 l with
  | nil => rfl
  | cons => rw [hr] at h; simp at h
 have hF : dF l = [] := by
  cases hr : dF l with
  | nil => rfl
  | cons => rw [hr, hW] at h; simp at h
 rw [hW] at C1
 cases hd : dotB (aft10 l)
 ·rw [hd] at C2
  have hne : ¬ (aft10 l).head? = some (46 : UInt8).toNat := by
   intro e
   unfold dotB at hd
   rw [e] at hd
   simp at hd
  rw [if_neg hne] at C2
  exact tcutDecimal_none s w _ (Lib.hid C1) (Lib.hid C2)
 ·rw [hd] at C2
  have hh : (aft10 l).head? = some (46 : UInt8).toNat := beq_iff_eq.1 hd
  rw [if_pos hh] at C2
  have hA2 : ∀ c ∈ (aft10 l).tail, c < 256 := fun c hc => hA c (tail_sub c hc)
  have hl2 : (aft10 l).tail.length ≤ 4611686018427387903 := by rw [List.length_tail]; omega
  have C4 := fun W => cut_ten (aft10 l).tail W hA2 hl2
  have hF2 : run10 (aft10 l).tail = [] := by
   unfold dF at hF
   rw [hd, if_pos rfl] at hF
   exact hF
  rw [hF2] at C4
  exact tcutDecimal_dot s w _ _ _ (Lib.hid C1) (Lib.hid C2) (Lib.hid C4)

end Go.Proofs.YtfcpkdafkmohkaaGreatDoor
