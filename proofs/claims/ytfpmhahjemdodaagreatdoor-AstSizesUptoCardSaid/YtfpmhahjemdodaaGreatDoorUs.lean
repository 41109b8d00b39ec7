/-
  Plain lemmas on texts: the units of a list of bytes and the bytes of a list of units. No program in it. Contracts of the small functions on one unit of a text: its length, a unit at a place, a unit written. Contracts of the reference's small functions on owned bytes: a unit put behind bytes. Contracts of the classes of units: of the program and of the reference. Owned bytes turned into a string; Wide and Make of the program and of the reference. Contracts of the program's and the reference's Wide: a text of bytes, each a unit (at most 2^45 bytes). Contracts of Make, Units and Unit of the program and of the reference. Contracts of Unit, of the law's comparison of units, and of the law UstrUnits (texts and lists of at most 2^45 bytes and units). Contracts of the program's and the reference's Slice: any part of any text; and of the law UstrParts. Contracts of Trim of the program and of the reference, and of the law UstrLetters (a text of at most 2^45 bytes).
-/
import GoSem.Core.Utf8
import Derived.Lib.Strings
import Derived.WalkKit
import Derived.WalkSpells
import Derived.WalkLawsBesides
import Derived.Deep.QuietTactic
import Derived.BigQuiet
import Derived.Laws.BitsAllLaws
import Derived.Lib.Hide
import Derived.Laws.BytesString
import Derived.Laws.Cells
import Derived.Deep.OwnRows
import Derived.Laws.CopyOwn
import Derived.Deep.AppendLies
import Derived.Lib.BitFns
import Derived.Lib.LaidTab
import Derived.Test.YtfpmhahjemdodaaGreatDoorProg
import Derived.Test.YtfpmhahjemdodaaGreatDoorShelf
import Derived.Test.YtfpmhahjemdodaaGreatDoorBA
namespace Go.Proofs.YtfpmhahjemdodaaGreatDoor

/-- The units of bytes: two bytes each, the higher one first; a last half counts not. -/
def uL : List UInt8 → List Nat
  | a :: b :: r => (a.toNat * 256 + b.toNat) :: uL r
  | _ => []

/-- The bytes of units. -/
def bL (l : List Nat) : List UInt8 := l.flatMap fun u => [UInt8.ofNat (u / 256), UInt8.ofNat u]

theorem uL_length : ∀ l : List UInt8, (uL l).length = l.length / 2
  | [] => rfl
  | [_] => by simp [uL]
  | a :: b :: r => by
    have := uL_length r
    simp only [uL, List.length_cons, this]
    omega

theorem uL_get : ∀ (l : List UInt8) (i : Nat) (h : 2 * i + 1 < l.length), (uL l)[i]? = some (l[2 * i].toNat * 256 + l[2 * i + 1].toNat)
  | [], i, h => by simp at h
  | [_], i, h => by simp at h
  | a :: b :: r, 0, _ => by simp [uL]
  | a :: b :: r, i + 1, h => by
    have := uL_get r i (by simp at h; omega)
    simp only [uL, List.getElem?_cons_succ, this]
    rfl

theorem uL_lt : ∀ (l : List UInt8), ∀ u ∈ uL l, u < 65536
  | [], u, h => by simp [uL] at h
  | [_], u, h => by simp [uL] at h
  | a :: b :: r, u, h => by
    simp only [uL, List.mem_cons] at h
    rcases h with rfl | h
    · have := a.toNat_lt; have := b.toNat_lt; omega
    · exact uL_lt r u h

theorem bL_cons (u : Nat) (l : List Nat) : bL (u :: l) = UInt8.ofNat (u / 256) :: UInt8.ofNat u :: bL l := rfl
theorem bL_append (l m : List Nat) : bL (l ++ m) = bL l ++ bL m := by simp [bL]
theorem bL_one (u : Nat) : bL [u] = [UInt8.ofNat (u / 256), UInt8.ofNat u] := rfl
theorem bL_length : ∀ l : List Nat, (bL l).length = 2 * l.length
  | [] => rfl
  | u :: r => by rw [bL_cons]; simp [bL_length r]; omega

/-! ### of a Go string -/
/-- A text's units. -/
def us (s : ByteArray) : List Nat := uL s.data.toList
/-- How many. -/
def ln (s : ByteArray) : Nat := s.size / 2
/-- The unit at a place; 0 where there is none. -/
def un (s : ByteArray) (i : Nat) : Nat := (us s).getD i 0

theorem ln_le (s : ByteArray) : 2 * ln s ≤ s.size := by unfold ln; omega
theorem us_length (s : ByteArray) : (us s).length = ln s := by
  unfold us ln; rw [uL_length, Go.Lib.size_eq]
theorem us_lt (s : ByteArray) : ∀ u ∈ us s, u < 65536 := uL_lt _
theorem un_eq (s : ByteArray) (i : Nat) (h : 2 * i + 1 < s.size) : un s i = (s[2 * i]'(by omega)).toNat * 256 + (s[2 * i + 1]'h).toNat := by
  have := uL_get s.data.toList i (by rw [← Go.Lib.size_eq]; exact h)
  unfold un us
  rw [List.getD_eq_getElem?_getD, this]
  rfl
theorem un_lt (s : ByteArray) (i : Nat) : un s i < 65536 := by
  unfold un
  rw [List.getD_eq_getElem?_getD]
  cases h : (us s)[i]? with
  | none => simp
  | some u => exact us_lt s u (List.mem_of_getElem? h)
theorem us_take_all (s : ByteArray) : (us s).take (ln s) = us s := List.take_of_length_le (by rw [us_length]; exact Nat.le_refl _)
end Go.Proofs.YtfpmhahjemdodaaGreatDoor
namespace Go.Proofs.YtfpmhahjemdodaaGreatDoor
open Go.RowKit
/-- The builder in block B holds the bytes l. -/
abbrev Bld (B : Nat) (l : List UInt8) (w : World) : Prop := Lib.IsBuilderF 48 5 B B (Lib.byteCells l) w
theorem bld_lt {B : Nat} {l : List UInt8} {w : World} (h : Bld B l w) : B < w.heap.size := by
  rcases h with h | h <;> exact Lib.BuilderAtF.lt h
theorem alloc_new (w : World) (o : Obj) : (w.alloc o).heap[w.heap.size]? = some o := by
  show (w.heap.push o)[w.heap.size]? = _
  rw [Array.getElem?_push, if_pos rfl]
theorem ln_int (s : ByteArray) : (s.size : Int) / 2 = (ln s : Int) := by unfold ln; omega
theorem len_any (s : ByteArray) (w : World) (hs : s.size ≤ maxLen) : Calls Tryz.prog 158 #[.string s] w fun e w' => e = .returned (.int .i64 (ln s)) ∧ w = w' := by
  unfold maxLen at hs
  have hm : (s.size : Int) ≤ 9223372036854775807 := by omega
  go_enter Tryz.func158, Tryz.ntmps158
  go_wp2
  go_ret
  exact ⟨by rw [← ln_int]; rfl, rfl⟩
theorem or_u16 (a b : Nat) (ha : a < 256) (hb : b < 256) : bits BinOp.or IntKind.u16 ((a : Int) * 256) (b : Int) = ((a * 256 + b : Nat) : Int) := by
  have e : ((a : Int) * 256) = ((a * 256 : Nat) : Int) := by omega
  rw [e, u16_or_nat _ _ (by omega) (by omega)]
  have := Nat.two_pow_add_eq_or_of_lt (i := 8) (b := b) (by omega) a
  rw [show a * 256 = 2 ^ 8 * a by omega, ← this]
theorem at_value (s : ByteArray) (i : Nat) (h0 : 2 * i < s.size) (h1 : 2 * i + 1 < s.size) :
    bits BinOp.or IntKind.u16 (IntKind.u16.wrap (IntKind.u16.wrap ((s[2 * i]'h0).toNat : Int) * 256)) (IntKind.u16.wrap ((s[2 * i + 1]'h1).toNat : Int)) = (un s i : Int) := by
  have c0 := (s[2 * i]'h0).toNat_lt
  have c1 := (s[2 * i + 1]'h1).toNat_lt
  rw [IntWalk.u16_in ((s[2 * i]'h0).toNat : Int) (by omega), IntWalk.u16_in (((s[2 * i]'h0).toNat : Int) * 256) (by omega), IntWalk.u16_in _ (by omega)]
  rw [or_u16 _ _ c0 c1, un_eq s i h1]
set_option maxHeartbeats 400000 in
theorem at_any (s : ByteArray) (i : Nat) (w : World) (h : i < ln s) (hs : s.size ≤ maxLen) :
    Calls Tryz.prog 161 #[.string s, .int .i64 i] w fun e w' => e = .returned (.int .u16 (un s i)) ∧ ∃ n, w' = w.drewN n := by
  unfold maxLen at hs
  have hl := ln_le s
  have a0 : (0 : Int) ≤ 2 * (i : Int) := by omega
  have a1 : 2 * (i : Int) < (s.size : Int) := by omega
  have a2 : (0 : Int) ≤ 2 * (i : Int) + 1 := by omega
  have a3 : 2 * (i : Int) + 1 < (s.size : Int) := by omega
  have b0 : IntKind.i64.wrap (2 * (i : Int)) = 2 * (i : Int) := IntWalk.i64_in _ (by omega)
  have b1 : IntKind.i64.wrap (2 * (i : Int) + 1) = 2 * (i : Int) + 1 := IntWalk.i64_in _ (by omega)
  have b2 : (2 * (i : Int)).toNat = 2 * i := by omega
  have b3 : (2 * (i : Int) + 1).toNat = 2 * i + 1 := by omega
  have H := Lib.hid (at_value s i (by omega) (by omega))
  clear hl
  go_enter Tryz.func161, Tryz.ntmps161
  go_wp2
  go_quiet (fail)
  go_wp2
  go_ret
  exact ⟨by rw [← H.out]; rfl, _, rfl⟩
theorem cells_two (l : List UInt8) (u : Nat) (hu : u < 65536) :
    Lib.byteCells (l ++ bL [u]) = (Lib.byteCells l ++ [Value.int .u8 ((u : Int) / 256)]) ++ [Value.int .u8 ((u : Int) % 256)] := by
  rw [Lib.byteCells_append, bL_one]
  simp [Lib.byteCells]
  omega
theorem writeUnit_any (B : Nat) (l : List UInt8) (u : Nat) (hu : u < 65536) (w : World) (h : Bld B l w) (hlen : l.length + 2 ≤ 140737488355328) (hBw : B ≤ w.heap.size) :
    Calls Tryz.prog 29 #[.pointer (some ⟨B, 0, none⟩), .int .u16 u] w fun e w' => e = .returned (.tuple #[]) ∧ Bld B (l ++ bL [u]) w' ∧ Below B w w' := by
  have h1 : (Lib.byteCells l).length + 1 ≤ 140737488355328 := by rw [Lib.byteCells_length]; omega
  have h2 : ((Lib.byteCells l) ++ [Value.int .u8 ((u : Int) / 256)]).length + 1 ≤ 140737488355328 := by rw [List.length_append, Lib.byteCells_length]; simp; omega
  go_enter Tryz.func29, Tryz.ntmps29
  go_wp2_with fail
  refine (Tryz.Builder_WriteByte_k B B _ _ _ h h1 hBw).mono ?_
  rintro e w1 ⟨rfl, hb1, bl1, _⟩
  have hBw1 := Nat.le_trans hBw bl1.size
  go_wp2_with fail
  refine (Tryz.Builder_WriteByte_k B B _ _ _ (Or.inr hb1) h2 hBw1).mono ?_
  rintro e w2 ⟨rfl, hb2, bl2, _⟩
  go_wp2
  go_end0
  refine ⟨rfl, ?_, bl1.trans bl2⟩
  rw [Bld, cells_two l u hu]
  exact Or.inr hb2
end Go.Proofs.YtfpmhahjemdodaaGreatDoor
namespace Go.Proofs.YtfpmhahjemdodaaGreatDoor
open Go.RowKit
/-- The slice of bytes v is the call's own (from block B on) and holds the bytes l. -/
abbrev Own (B : Nat) (l : List UInt8) (v : Value) (w : World) : Prop := w.ownsRow B 5 1 v l.length (Lib.byteCells l)
theorem info5 : (Tryz.prog.info? 5).map (fun i => (i.zero, i.size, i.bytes)) = some (some (.int .u8 0), 1, 1) := by kernel_rfl
theorem and_u16 (u : Nat) (hu : u < 65536) : bits BinOp.and IntKind.u16 (u : Int) 255 % 256 = (u : Int) % 256 := by
  have := u16_and_nat u 255 hu (by omega)
  rw [show (255 : Int) = ((255 : Nat) : Int) from rfl, this]
  have h2 := Nat.and_two_pow_sub_one_eq_mod u 8
  rw [show (255 : Nat) = 2 ^ 8 - 1 from rfl, h2]
  omega
theorem Own.nil (B : Nat) (w : World) : Own B [] (.slice none 0 0) w := World.ownsRow_nil _ _ _ _
set_option maxHeartbeats 400000 in
theorem put_any (B : Nat) (l : List UInt8) (v : Value) (u : Nat) (hu : u < 65536) (w : World) (h : Own B l v w) (hlen : l.length + 2 ≤ 140737488355328) (hBw : B ≤ w.heap.size) :
    Calls Tryz.prog 21 #[v, .int .u16 u] w fun e w' => ∃ v', e = .returned v' ∧ Own B (l ++ bL [u]) v' w' ∧ Below B w w' := by
  obtain ⟨i0, hi, hz0, hz1, hz2⟩ := info_parts info5
  have hA := and_u16 u hu
  go_enter Tryz.func21, Tryz.ntmps21
  go_wp2_with (at_builtin; refine wpList_append_own _ rfl _ _ 46 rfl B 5 i0 (.int .u8 0) 1 1 Tryz.underlying46 hi hz0 hz1 hz2 rfl (by decide) v l.length (Lib.byteCells l) rfl (h.alloc _) ⟨w.heap.size, 0, none⟩ 2 2 [.int .u8 ((u : Int) / 256), .int .u8 ((u : Int) % 256)] rfl rfl ?c1 ?c2 ?c3 ?c4 ?c5 ?_)
  case c1 => exact cell_two_new _ _ _ _
  case c2 => simp [Value.oneCell']
  case c3 => unfold maxLen; omega
  case c4 => omega
  case c5 => simp; omega
  intro v' w1 hown hg _
  go_wp2
  go_ret
  refine ⟨v', rfl, ?_, ((Below.refl B w).alloc hBw _).grown hg (by simp; omega) (fun k hk => (h.lt k hk).1)⟩
  rw [Own, cells_two l u hu]
  simpa [bL_one] using hown
end Go.Proofs.YtfpmhahjemdodaaGreatDoor
namespace Go.Proofs.YtfpmhahjemdodaaGreatDoor
open Go.RowKit
def spB (u : Int) : Bool := u == 9 || u == 11 || u == 12 || u == 32 || u == 160 || u == 5760 || u == 6158 || u == 8239 || u == 8287 || u == 12288 || u == 65279 || (decide (8192 ≤ u) && decide (u ≤ 8202))
def enB (u : Int) : Bool := u == 10 || u == 13 || u == 8232 || u == 8233
def blB (u : Int) : Bool := spB u || enB u
def stB (u : Int) : Bool := (decide (97 ≤ u) && decide (u ≤ 122)) || (decide (65 ≤ u) && decide (u ≤ 90)) || u == 36 || u == 95 || (decide (128 ≤ u) && !(blB u))
def ptB (u : Int) : Bool := stB u || (decide (48 ≤ u) && decide (u ≤ 57))
set_option maxHeartbeats 1000000 in
theorem space_any (u : Int) (w : World) : Calls Tryz.prog 220 #[.int .u16 u] w fun e w' => e = .returned (.bool (spB u)) ∧ w = w' := by
  go_enter Tryz.func220, Tryz.ntmps220
  go_wp2
  all_goals go_ret
  all_goals exact ⟨by simp [spB, *] <;> omega, rfl⟩
set_option maxHeartbeats 1000000 in
theorem ends_any (u : Int) (w : World) : Calls Tryz.prog 221 #[.int .u16 u] w fun e w' => e = .returned (.bool (enB u)) ∧ w = w' := by
  go_enter Tryz.func221, Tryz.ntmps221
  go_wp2
  all_goals go_ret
  all_goals exact ⟨by simp [enB, *], rfl⟩
set_option maxHeartbeats 1000000 in
theorem blank_any (u : Int) (w : World) : Calls Tryz.prog 203 #[.int .u16 u] w fun e w' => e = .returned (.bool (blB u)) ∧ w = w' := by
  go_enter Tryz.func203, Tryz.ntmps203
  go_wp2_with (first | (go_at_call 220; refine (space_any _ _).mono ?_; rintro e w' ⟨rfl, rfl⟩) | (go_at_call 221; refine (ends_any _ _).mono ?_; rintro e w' ⟨rfl, rfl⟩))
  all_goals go_ret
  all_goals exact ⟨by simp [blB, *], rfl⟩
set_option maxHeartbeats 1000000 in
theorem start_any (u : Int) (w : World) : Calls Tryz.prog 191 #[.int .u16 u] w fun e w' => e = .returned (.bool (stB u)) ∧ w = w' := by
  go_enter Tryz.func191, Tryz.ntmps191
  go_wp2_with (first | (go_at_call 203; refine (blank_any _ _).mono ?_; rintro e w' ⟨rfl, rfl⟩))
  all_goals go_ret
  all_goals exact ⟨by simp [stB, *] <;> omega, rfl⟩
set_option maxHeartbeats 1000000 in
theorem part_any (u : Int) (w : World) : Calls Tryz.prog 192 #[.int .u16 u] w fun e w' => e = .returned (.bool (ptB u)) ∧ w = w' := by
  go_enter Tryz.func192, Tryz.ntmps192
  go_wp2_with (first | (go_at_call 191; refine (start_any _ _).mono ?_; rintro e w' ⟨rfl, rfl⟩))
  all_goals go_ret
  all_goals exact ⟨by simp [ptB, *] <;> omega, rfl⟩
end Go.Proofs.YtfpmhahjemdodaaGreatDoor
namespace Go.Proofs.YtfpmhahjemdodaaGreatDoor
open Go.RowKit
theorem foldl_push (ns : List UInt8) (s : ByteArray) : (ns.map fun b => (b.toNat : Int)).foldl (fun r n => r.push (UInt8.ofNat n.toNat)) s = ⟨s.data ++ ns.toArray⟩ := by
  induction ns generalizing s with
  | nil => simp
  | cons b r ih =>
    simp only [List.map_cons, List.foldl_cons, ih]
    apply ByteArray.ext
    simp [ByteArray.push]
set_option maxRecDepth 100000 in
/-- The string of owned bytes. -/
theorem own_string {B : Nat} {l : List UInt8} {v : Value} {w : World} (h : Own B l v w) : (convert 46 9 v).run Tryz.prog w = .ok (.string ⟨l.toArray⟩) w := by
  rcases h.2 with ⟨rfl, hn⟩ | ⟨g, cap, cur, rfl, hB, hg, hcap, hmax, hcur, htk⟩
  · have : l = [] := List.eq_nil_of_length_eq_zero hn
    subst this
    rfl
  · have hc := h.cells (g := g) rfl
    rw [run_convert_bytes_string w 46 9 5 _ _ _ Tryz.underlying46 Tryz.underlying5 Tryz.underlying9]
    have hl := run_loadCells_list (P := Tryz.prog) w ⟨g, 0, none⟩ (Lib.byteCells l) hc
    rw [Lib.byteCells_length] at hl
    rw [run_bytesToString w ⟨g, 0, none⟩ l.length cap (l.map fun b => (b.toNat : Int)) (by rw [hl]; simp [Lib.byteCells, Function.comp_def])]
    rw [foldl_push]
    simp
end Go.Proofs.YtfpmhahjemdodaaGreatDoor
namespace Go.Proofs.YtfpmhahjemdodaaGreatDoor
open Go.RowKit
def wdL (s : ByteArray) : List Nat := s.data.toList.map fun b => b.toNat
theorem wdL_length (s : ByteArray) : (wdL s).length = s.size := by rw [wdL, List.length_map, ← Lib.size_eq]
theorem wdL_succ (s : ByteArray) (k : Nat) (h : k < s.size) : (wdL s).take (k + 1) = (wdL s).take k ++ [(s[k]'h).toNat] := by
  have h' : k < (wdL s).length := by rw [wdL_length]; exact h
  rw [List.take_succ_eq_append_getElem h']
  simp [wdL]; rfl
theorem wdL_all (s : ByteArray) : (wdL s).take s.size = wdL s := List.take_of_length_le (by rw [wdL_length]; exact Nat.le_refl _)
theorem take_len {α : Type} (l : List α) (k : Nat) : (l.take k).length ≤ k := List.length_take_le _ _
set_option maxRecDepth 100000 in
set_option maxHeartbeats 1000000 in
theorem wide_any (s : ByteArray) (w : World) (hs : s.size ≤ 35184372088832) :
    Calls Tryz.prog 19 #[.string s] w fun e w' => e = .returned (.string ⟨(bL (wdL s)).toArray⟩) ∧ Below w.heap.size w w' := by
  have hm : (s.size : Int) ≤ 35184372088832 := by omega
  have HS := Lib.hid hs
  clear hs
  have hg : Calls Tryz.prog 28 #[.pointer (some ⟨w.heap.size, 0, none⟩), .int .i64 (2 * (s.size : Int))] (w.alloc (.cells #[.pointer none, .slice none 0 0] 48)) fun e w' => e = .returned (.tuple #[]) ∧ (Lib.BuilderAt 48 5 w.heap.size w.heap.size (.pointer (some ⟨w.heap.size, 0, none⟩)) [] w' ∧ Below w.heap.size (w.alloc (.cells #[.pointer none, .slice none 0 0] 48)) w') :=
    Tryz.Builder_Grow_fresh w.heap.size w.heap.size (2 * s.size) _ (Nat.le_refl _) (alloc_new w _) (by simp) (by have := HS.out; omega)
  go_enter Tryz.func19, Tryz.ntmps19
  go_wp2_with fail
  refine hg.mono ?_
  rintro e w1 ⟨rfl, hb1, bl1⟩
  have hbl : Below w.heap.size w w1 := ((Below.refl w.heap.size w).alloc (Nat.le_refl _) _).trans bl1
  clear hg
  go_wp2
  go_loopw [11] (fun i wr => ∃ k : Nat, i = .int .i64 k ∧ k ≤ s.size ∧ Bld w.heap.size (bL ((wdL s).take k)) wr ∧ Below w.heap.size w wr) (fun i _ => s.size - (intOf i).toNat)
  case atStart => exact ⟨0, rfl, Nat.zero_le _, Lib.IsBuilderF.of (.inr hb1), hbl⟩
  case round =>
    obtain ⟨k, rfl, hk, hI, hbw⟩ := hrel
    have hsz := bld_lt hI
    by_cases hlt : k < s.size
    · have hl := take_len (wdL s) k
      have hu := (s[k]'hlt).toNat_lt
      have hr := fun W h hb => writeUnit_any w.heap.size (bL ((wdL s).take k)) (s[k]'hlt).toNat (by omega) W h (by rw [bL_length]; have := HS.out; omega) hb
      have HW := Lib.hid (show IntKind.u16.wrap (((s[k]'hlt).toNat : Nat) : Int) = ((s[k]'hlt).toNat : Int) from IntWalk.u16_in _ (by omega))
      have HG := Lib.hid (wdL_succ s k hlt)
      clear hl hu
      go_wp2_with fail
      rw [HW.out]
      refine (hr _ hI (by omega)).mono ?_
      rintro e w2 ⟨rfl, hI2, hb2⟩
      go_wp2
      go_roundw
      case rel => exact ⟨k + 1, by go_num, by omega, by rw [HG.out, bL_append]; exact hI2, hbw.trans hb2⟩
      case measure => simp [intOf]; omega
    · have hS := Tryz.Builder_String_any_k w.heap.size w.heap.size _ wr hI (by omega)
      have HZ := Lib.hid (show (wdL s).take k = wdL s by rw [show k = s.size by omega]; exact wdL_all s)
      go_wp2_with (go_at_call 20; refine hS.mono ?_; rintro e w2 ⟨rfl, _, hb2, _⟩)
      go_ret
      rw [HZ.out]
      exact ⟨rfl, hbw.trans hb2⟩
set_option maxRecDepth 100000 in
set_option maxHeartbeats 1000000 in
theorem rwide_any (s : ByteArray) (w : World) (hs : s.size ≤ 35184372088832) :
    Calls Tryz.prog 14 #[.string s] w fun e w' => e = .returned (.string ⟨(bL (wdL s)).toArray⟩) ∧ Below w.heap.size w w' := by
  have hm : (s.size : Int) ≤ 35184372088832 := by omega
  have HS := Lib.hid hs
  clear hs
  go_enter Tryz.func14, Tryz.ntmps14
  go_wp2
  go_loopw [3, 4] (fun v i wr => ∃ k : Nat, i = .int .i64 k ∧ k ≤ s.size ∧ Own w.heap.size (bL ((wdL s).take k)) v wr ∧ Below w.heap.size w wr) (fun _ i _ => s.size - (intOf i).toNat)
  case atStart => exact ⟨0, rfl, Nat.zero_le _, Own.nil _ _, Below.refl _ _⟩
  case round =>
    obtain ⟨k, rfl, hk, hI, hbw⟩ := hrel
    by_cases hlt : k < s.size
    · have hl := take_len (wdL s) k
      have hu := (s[k]'hlt).toNat_lt
      have hr := fun W v h hb => put_any w.heap.size (bL ((wdL s).take k)) v (s[k]'hlt).toNat (by omega) W h (by rw [bL_length]; have := HS.out; omega) hb
      have HW := Lib.hid (show IntKind.u16.wrap (((s[k]'hlt).toNat : Nat) : Int) = ((s[k]'hlt).toNat : Int) from IntWalk.u16_in _ (by omega))
      have HG := Lib.hid (wdL_succ s k hlt)
      clear hl hu
      go_wp2_with fail
      rw [HW.out]
      refine (hr _ _ hI hbw.size).mono ?_
      rintro e w2 ⟨v2, rfl, hI2, hb2⟩
      go_wp2
      go_roundw
      case rel => exact ⟨k + 1, by go_num, by omega, by rw [HG.out, bL_append]; exact hI2, hbw.trans hb2⟩
      case measure => simp [intOf]; omega
    · have HZ := Lib.hid (show (wdL s).take k = wdL s by rw [show k = s.size by omega]; exact wdL_all s)
      have hcv := own_string hI
      go_wp2
      go_ret
      rw [HZ.out]
      exact ⟨rfl, hbw⟩
end Go.Proofs.YtfpmhahjemdodaaGreatDoor
namespace Go.Proofs.YtfpmhahjemdodaaGreatDoor
open Go.RowKit
theorem info_u16 : (Tryz.prog.info? 54).map (fun i => (i.zero, i.size, i.bytes)) = some (some (.int .u16 0), 1, 2) := by kernel_rfl
/-- Cells that hold units, below block B. -/
def Cells16 (ls : List Nat) (b off : Nat) (w : World) : Prop := ∀ (k u : Nat), ls[k]? = some u → w.cell? ⟨b, off + k, none⟩ = some (.int .u16 (u : Int))
theorem cells16_below {ls : List Nat} {b off B : Nat} {w w' : World} (h : Cells16 ls b off w) (hb : b < B) (hbw : Below B w w') : Cells16 ls b off w' := by
  intro k u hk
  rw [hbw.cell (p := ⟨b, off + k, none⟩) hb]
  exact h k u hk
set_option maxRecDepth 100000 in
set_option maxHeartbeats 1000000 in
theorem make_any (ls : List Nat) (hu : ∀ u ∈ ls, u < 65536) (b off cap : Nat) (w : World) (hb : b < w.heap.size) (hc : Cells16 ls b off w) (hs : 2 * ls.length ≤ 140737488355328) :
    Calls Tryz.prog 183 #[.slice (some ⟨b, off, none⟩) ls.length cap] w fun e w' => e = .returned (.string ⟨(bL ls).toArray⟩) ∧ Below w.heap.size w w' := by
  obtain ⟨N, hN⟩ : ∃ N, ls.length = N := ⟨_, rfl⟩
  rw [hN] at hs ⊢
  have hm : (N : Int) ≤ 70368744177664 := by omega
  have HS := Lib.hid hs
  have HN := Lib.hid hN
  clear hs hN
  have hg : Calls Tryz.prog 28 #[.pointer (some ⟨w.heap.size, 0, none⟩), .int .i64 (2 * (N : Int))] (w.alloc (.cells #[.pointer none, .slice none 0 0] 48)) fun e w' => e = .returned (.tuple #[]) ∧ (Lib.BuilderAt 48 5 w.heap.size w.heap.size (.pointer (some ⟨w.heap.size, 0, none⟩)) [] w' ∧ Below w.heap.size (w.alloc (.cells #[.pointer none, .slice none 0 0] 48)) w') :=
    Tryz.Builder_Grow_fresh w.heap.size w.heap.size (2 * N) _ (Nat.le_refl _) (alloc_new w _) (by simp) (by have := HS.out; omega)
  go_enter Tryz.func183, Tryz.ntmps183
  go_wp2_with fail
  refine hg.mono ?_
  rintro e w1 ⟨rfl, hb1, bl1⟩
  have hbl : Below w.heap.size w w1 := ((Below.refl w.heap.size w).alloc (Nat.le_refl _) _).trans bl1
  clear hg
  go_wp2
  go_loopw [12] (fun i wr => ∃ k : Nat, i = .int .i64 k ∧ k ≤ N ∧ Bld w.heap.size (bL (ls.take k)) wr ∧ Below w.heap.size w wr) (fun i _ => N - (intOf i).toNat)
  case atStart => exact ⟨0, rfl, Nat.zero_le _, Lib.IsBuilderF.of (.inr hb1), hbl⟩
  case round =>
    obtain ⟨k, rfl, hk, hI, hbw⟩ := hrel
    have hsz := bld_lt hI
    by_cases hlt : k < N
    · have hlt2 : k < ls.length := by rw [HN.out]; exact hlt
      have hcell := cells16_below hc hb hbw k ls[k] (List.getElem?_eq_getElem hlt2)
      have hu1 := hu _ (List.getElem_mem hlt2)
      obtain ⟨u, hue⟩ : ∃ u, ls[k] = u := ⟨_, rfl⟩
      rw [hue] at hcell hu1
      have hl := take_len ls k
      have hr := fun W h hb => writeUnit_any w.heap.size (bL (ls.take k)) u hu1 W h (by rw [bL_length]; have := HS.out; omega) hb
      have HG := Lib.hid (show ls.take (k + 1) = ls.take k ++ [u] by rw [List.take_succ_eq_append_getElem hlt2, hue])
      clear hl hu1 hue hc hu
      go_wp2_with fail
      refine (hr _ hI (by omega)).mono ?_
      rintro e w2 ⟨rfl, hI2, hb2⟩
      go_wp2
      go_roundw
      case rel => exact ⟨k + 1, by go_num, by omega, by rw [HG.out, bL_append]; exact hI2, hbw.trans hb2⟩
      case measure => simp [intOf]; omega
    · have hS := Tryz.Builder_String_any_k w.heap.size w.heap.size _ wr hI (by omega)
      have HZ := Lib.hid (show ls.take k = ls from List.take_of_length_le (by rw [HN.out]; omega))
      clear hc hu
      go_wp2_with (go_at_call 20; refine hS.mono ?_; rintro e w2 ⟨rfl, _, hb2, _⟩)
      go_ret
      rw [HZ.out]
      exact ⟨rfl, hbw.trans hb2⟩
set_option maxRecDepth 100000 in
set_option maxHeartbeats 1000000 in
theorem make_none (a : Option Addr) (cap : Nat) (w : World) : Calls Tryz.prog 183 #[.slice a 0 cap] w fun e w' => e = .returned (.string ⟨#[]⟩) ∧ Below w.heap.size w w' := by
  have hg : Calls Tryz.prog 28 #[.pointer (some ⟨w.heap.size, 0, none⟩), .int .i64 0] (w.alloc (.cells #[.pointer none, .slice none 0 0] 48)) fun e w' => e = .returned (.tuple #[]) ∧ (Lib.BuilderAt 48 5 w.heap.size w.heap.size (.pointer (some ⟨w.heap.size, 0, none⟩)) [] w' ∧ Below w.heap.size (w.alloc (.cells #[.pointer none, .slice none 0 0] 48)) w') :=
    Tryz.Builder_Grow_fresh w.heap.size w.heap.size 0 _ (Nat.le_refl _) (alloc_new w _) (by simp) (by omega)
  go_enter Tryz.func183, Tryz.ntmps183
  go_wp2_with fail
  refine hg.mono ?_
  rintro e w1 ⟨rfl, hb1, bl1⟩
  have hbl : Below w.heap.size w w1 := ((Below.refl w.heap.size w).alloc (Nat.le_refl _) _).trans bl1
  clear hg
  go_wp2
  go_loopw [12] (fun i wr => i = .int .i64 0 ∧ Bld w.heap.size [] wr ∧ Below w.heap.size w wr) (fun _ _ => 0)
  case atStart => exact ⟨rfl, Lib.IsBuilderF.of (.inr hb1), hbl⟩
  case round =>
    obtain ⟨rfl, hI, hbw⟩ := hrel
    have hsz := bld_lt hI
    have hS := Tryz.Builder_String_any_k w.heap.size w.heap.size _ wr hI (by omega)
    go_wp2_with (go_at_call 20; refine hS.mono ?_; rintro e w2 ⟨rfl, _, hb2, _⟩)
    go_ret
    exact ⟨rfl, hbw.trans hb2⟩
/-- The slice of units v is the call's own and holds the units l. -/
abbrev Own16 (B : Nat) (l : List Nat) (v : Value) (w : World) : Prop := w.ownsRow B 54 1 v l.length (l.map fun u => Value.int .u16 (u : Nat))
theorem Own16.nil (B : Nat) (w : World) : Own16 B [] (.slice none 0 0) w := World.ownsRow_nil _ _ _ _
end Go.Proofs.YtfpmhahjemdodaaGreatDoor
namespace Go.Proofs.YtfpmhahjemdodaaGreatDoor
open Go.RowKit
def unOk (s : ByteArray) (i : Int) : Bool := decide (0 ≤ i) && decide (i < ln s)
def unV (s : ByteArray) (i : Int) : Nat := if unOk s i then un s i.toNat else 0
set_option maxRecDepth 100000 in
theorem unit_any (s : ByteArray) (i : Int) (w : World) (hs : s.size ≤ maxLen) :
    Calls Tryz.prog 193 #[.string s, .int .i64 i] w fun e w' => e = .returned (.tuple #[.int .u16 (unV s i), .bool (unOk s i)]) ∧ ∃ n, w' = w.drewN n := by
  have c1 := fun W => len_any s W hs
  by_cases h0 : 0 ≤ i
  · obtain ⟨k, rfl⟩ := Int.eq_ofNat_of_zero_le h0
    by_cases h1 : k < ln s
    · have e1 : unOk s (k : Int) = true := by simp [unOk]; omega
      have e2 : unV s (k : Int) = un s k := by unfold unV; rw [if_pos e1]; rfl
      have c2 := fun W => at_any s k W h1 hs
      have h1' : (k : Int) < (ln s : Int) := by omega
      rw [e1, e2]
      clear e1 e2
      go_enter Tryz.func193, Tryz.ntmps193
      go_wp2_with (first | (go_at_call 158; refine (c1 _).mono ?_; rintro e w' ⟨rfl, rfl⟩) | (go_at_call 161; refine (c2 _).mono ?_; rintro e w' ⟨rfl, n, rfl⟩))
      go_ret2
      exact ⟨rfl, n, rfl⟩
    · have e1 : unOk s (k : Int) = false := by simp [unOk]; omega
      have e2 : unV s (k : Int) = 0 := by unfold unV; rw [e1]; rfl
      have h1' : ¬ ((k : Int) < (ln s : Int)) := by omega
      rw [e1, e2]
      clear e1 e2
      go_enter Tryz.func193, Tryz.ntmps193
      go_wp2_with (first | (go_at_call 158; refine (c1 _).mono ?_; rintro e w' ⟨rfl, rfl⟩))
      go_ret2
      exact ⟨rfl, 0, rfl⟩
  · have e1 : unOk s i = false := by simp [unOk]; omega
    have e2 : unV s i = 0 := by unfold unV; rw [e1]; rfl
    rw [e1, e2]
    clear e1 e2
    go_enter Tryz.func193, Tryz.ntmps193
    go_wp2_with (first | (go_at_call 158; refine (c1 _).mono ?_; rintro e w' ⟨rfl, rfl⟩))
    go_ret2
    exact ⟨rfl, 0, rfl⟩
end Go.Proofs.YtfpmhahjemdodaaGreatDoor
namespace Go.Proofs.YtfpmhahjemdodaaGreatDoor
open Go.RowKit
end Go.Proofs.YtfpmhahjemdodaaGreatDoor
namespace Go.Proofs.YtfpmhahjemdodaaGreatDoor
open Go.RowKit
end Go.Proofs.YtfpmhahjemdodaaGreatDoor
