/-
  Contracts of the small functions on one unit of a text: its length, a unit at a place, a unit written.
-/
import Derived.Test.YthnkidncjkhndaaDoorShelf
import Derived.Test.YthnkidncjkhndaaDoorText
import Derived.WalkKit
import Derived.WalkSpells
import Derived.WalkLawsBesides
import Derived.Deep.QuietTactic
import Derived.BigQuiet
import Derived.Laws.BitsAllLaws
import Derived.Lib.Hide
namespace Go.Proofs.YthnkidncjkhndaaDoor
open Go.RowKit
/-- The builder in block B holds the bytes l. -/
abbrev Bld (B : Nat) (l : List UInt8) (w : World) : Prop := Lib.IsBuilderF 54 5 B B (Lib.byteCells l) w
theorem ln_int (s : ByteArray) : (s.size : Int) / 2 = (ln s : Int) := by unfold ln; omega
theorem len_any (s : ByteArray) (w : World) (hs : s.size ≤ maxLen) : Calls Tryd.prog 28 #[.string s] w fun e w' => e = .returned (.int .i64 (ln s)) ∧ w = w' := by
  unfold maxLen at hs
  have hm : (s.size : Int) ≤ 9223372036854775807 := by omega
  go_enter Tryd.func28, Tryd.ntmps28
  go_wp2
  go_ret
  exact ⟨by rw [← ln_int]; rfl, rfl⟩
theorem rlen_any (s : ByteArray) (w : World) (hs : s.size ≤ maxLen) : Calls Tryd.prog 29 #[.string s] w fun e w' => e = .returned (.int .i64 (ln s)) ∧ w = w' := by
  unfold maxLen at hs
  have hm : (s.size : Int) ≤ 9223372036854775807 := by omega
  go_enter Tryd.func29, Tryd.ntmps29
  go_wp2
  go_ret
  exact ⟨by rw [← ln_int]; rfl, rfl⟩
theorem or_u16 (a b : Nat) (ha : a < 256) (hb : b < 256) : bits BinOp.or IntKind.u16 ((a : Int) * 256) (b : Int) = ((a * 256 + b : Nat) : Int) := by
  have e : ((a : Int) * 256) = ((a * 256 : Nat) : Int) := by omega
  rw [e, u16_or_nat _ _ (by omega) (by omega)]
  have := Nat.two_pow_add_eq_or_of_lt (i := 8) (b := b) (by omega) a
  rw [show a * 256 = 2 ^ 8 * a by omega, ← this]
theorem at_value (s : ByteArray) (i : Nat) (h0 : 2 * i < s.size) (h1 : 2 * i + 1 < s.size) :
    bits BinOp.or IntKind.u16 (IntKind.u16.wrap (IntKind.u16.wrap ((s[2 * i]'h0).toNat : Int) * 256)) (IntKind.u16.wrap ((s[2 * i + 1]'h1).toNat : Int)) = (un s i : Int) := by
  have c0 := (s[2 * i]'h0).toNat_lt
  have c1 := (s[2 * i + 1]'h1).toNat_lt
  rw [IntWalk.u16_in ((s[2 * i]'h0).toNat : Int) (by omega), IntWalk.u16_in (((s[2 * i]'h0).toNat : Int) * 256) (by omega), IntWalk.u16_in _ (by omega)]
  rw [or_u16 _ _ c0 c1, un_eq s i h1]
set_option maxHeartbeats 400000 in
theorem at_any (s : ByteArray) (i : Nat) (w : World) (h : i < ln s) (hs : s.size ≤ maxLen) :
    Calls Tryd.prog 65 #[.string s, .int .i64 i] w fun e w' => e = .returned (.int .u16 (un s i)) ∧ ∃ n, w' = w.drewN n := by
  unfold maxLen at hs
  have hl := ln_le s
  have a0 : (0 : Int) ≤ 2 * (i : Int) := by omega
  have a1 : 2 * (i : Int) < (s.size : Int) := by omega
  have a2 : (0 : Int) ≤ 2 * (i : Int) + 1 := by omega
  have a3 : 2 * (i : Int) + 1 < (s.size : Int) := by omega
  have b0 : IntKind.i64.wrap (2 * (i : Int)) = 2 * (i : Int) := IntWalk.i64_in _ (by omega)
  have b1 : IntKind.i64.wrap (2 * (i : Int) + 1) = 2 * (i : Int) + 1 := IntWalk.i64_in _ (by omega)
  have b2 : (2 * (i : Int)).toNat = 2 * i := by omega
  have b3 : (2 * (i : Int) + 1).toNat = 2 * i + 1 := by omega
  have H := Lib.hid (at_value s i (by omega) (by omega))
  clear hl
  go_enter Tryd.func65, Tryd.ntmps65
  go_wp2
  go_quiet (fail)
  go_wp2
  go_ret
  exact ⟨by rw [← H.out]; rfl, _, rfl⟩
set_option maxHeartbeats 400000 in
theorem rat_any (s : ByteArray) (i : Nat) (w : World) (h : i < ln s) (hs : s.size ≤ maxLen) :
    Calls Tryd.prog 69 #[.string s, .int .i64 i] w fun e w' => e = .returned (.int .u16 (un s i)) ∧ ∃ n, w' = w.drewN n := by
  unfold maxLen at hs
  have hl := ln_le s
  have a0 : (0 : Int) ≤ 2 * (i : Int) := by omega
  have a1 : 2 * (i : Int) < (s.size : Int) := by omega
  have a2 : (0 : Int) ≤ 2 * (i : Int) + 1 := by omega
  have a3 : 2 * (i : Int) + 1 < (s.size : Int) := by omega
  have b0 : IntKind.i64.wrap (2 * (i : Int)) = 2 * (i : Int) := IntWalk.i64_in _ (by omega)
  have b1 : IntKind.i64.wrap (2 * (i : Int) + 1) = 2 * (i : Int) + 1 := IntWalk.i64_in _ (by omega)
  have b2 : (2 * (i : Int)).toNat = 2 * i := by omega
  have b3 : (2 * (i : Int) + 1).toNat = 2 * i + 1 := by omega
  have H := Lib.hid (at_value s i (by omega) (by omega))
  clear hl
  go_enter Tryd.func69, Tryd.ntmps69
  go_wp2
  go_quiet (fail)
  go_wp2
  go_ret
  exact ⟨by rw [← H.out]; rfl, _, rfl⟩
theorem cells_two (l : List UInt8) (u : Nat) (hu : u < 65536) :
    Lib.byteCells (l ++ bL [u]) = (Lib.byteCells l ++ [Value.int .u8 ((u : Int) / 256)]) ++ [Value.int .u8 ((u : Int) % 256)] := by
  rw [Lib.byteCells_append, bL_one]
  simp [Lib.byteCells]
  omega
theorem writeUnit_any (B : Nat) (l : List UInt8) (u : Nat) (hu : u < 65536) (w : World) (h : Bld B l w) (hlen : l.length + 2 ≤ 140737488355328) (hBw : B ≤ w.heap.size) :
    Calls Tryd.prog 73 #[.pointer (some ⟨B, 0, none⟩), .int .u16 u] w fun e w' => e = .returned (.tuple #[]) ∧ Bld B (l ++ bL [u]) w' ∧ Below B w w' := by
  have h1 : (Lib.byteCells l).length + 1 ≤ 140737488355328 := by rw [Lib.byteCells_length]; omega
  have h2 : ((Lib.byteCells l) ++ [Value.int .u8 ((u : Int) / 256)]).length + 1 ≤ 140737488355328 := by rw [List.length_append, Lib.byteCells_length]; simp; omega
  go_enter Tryd.func73, Tryd.ntmps73
  go_wp2_with fail
  refine (Tryd.Builder_WriteByte_k B B _ _ _ h h1 hBw).mono ?_
  rintro e w1 ⟨rfl, hb1, bl1, _⟩
  have hBw1 := Nat.le_trans hBw bl1.size
  go_wp2_with fail
  refine (Tryd.Builder_WriteByte_k B B _ _ _ (Or.inr hb1) h2 hBw1).mono ?_
  rintro e w2 ⟨rfl, hb2, bl2, _⟩
  go_wp2
  go_end0
  refine ⟨rfl, ?_, bl1.trans bl2⟩
  rw [Bld, cells_two l u hu]
  exact Or.inr hb2
end Go.Proofs.YthnkidncjkhndaaDoor
