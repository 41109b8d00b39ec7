/-
  Contracts of the reference's utf8: a code point's bytes put behind owned bytes.
-/
import Derived.Test.YthnkidncjkhndaaDoorConv
namespace Go.Proofs.YthnkidncjkhndaaDoor
open Go.RowKit
theorem or_u32 (a i b : Nat) (hb : b < 2 ^ i) (hs : 2 ^ i * a + b < 4294967296) : bits BinOp.or IntKind.u32 ((2 ^ i * a : Nat) : Int) (b : Int) = ((2 ^ i * a + b : Nat) : Int) := by
  rw [u32_or_nat _ _ (by omega) (by omega), ← Nat.two_pow_add_eq_or_of_lt hb a]
theorem and_u32_63 (b : Nat) (hb : b < 4294967296) : bits BinOp.and IntKind.u32 (b : Int) 63 = (b : Int) % 64 := by
  rw [show (63 : Int) = ((63 : Nat) : Int) from rfl, u32_and_nat _ _ hb (by omega), show (63 : Nat) = 2 ^ 6 - 1 from rfl, Nat.and_two_pow_sub_one_eq_mod]
  rfl
theorem or_192 (b : Nat) (hb : b < 32) : bits BinOp.or IntKind.u32 192 (b : Int) = 192 + (b : Int) := by
  have := or_u32 3 6 b (by omega) (by omega); simpa using this
theorem or_224 (b : Nat) (hb : b < 16) : bits BinOp.or IntKind.u32 224 (b : Int) = 224 + (b : Int) := by
  have := or_u32 7 5 b (by omega) (by omega); simpa using this
theorem or_240 (b : Nat) (hb : b < 8) : bits BinOp.or IntKind.u32 240 (b : Int) = 240 + (b : Int) := by
  have := or_u32 15 4 b (by omega) (by omega); simpa using this
theorem or_128 (b : Nat) (hb : b < 64) : bits BinOp.or IntKind.u32 128 (b : Int) = 128 + (b : Int) := by
  have := or_u32 2 6 b (by omega) (by omega); simpa using this
theorem cells_new (w : World) (vs : Array Value) (t : TypeId) : ∀ j u, vs.toList[j]? = some u → (w.alloc (.cells vs t)).cell? ((⟨w.heap.size, 0, none⟩ : Addr).add j) = some u := by
  intro j u hj
  have h : (w.alloc (.cells vs t)).cell? ⟨w.heap.size, j, none⟩ = some u := by
    rw [World.cell?_alloc_mark, ← Array.getElem?_toList]
    exact hj
  by_cases hz : j = 0
  · subst hz; simpa [Addr.add] using h
  · simpa [Addr.add, hz] using h
set_option maxRecDepth 100000 in
set_option maxHeartbeats 1000000 in
theorem rutf1_any (B : Nat) (l : List UInt8) (v : Value) (p : Nat) (hp : p < 128) (w : World) (h : Own B l v w) (hlen : l.length + 4 ≤ 140737488355328) (hBw : B ≤ w.heap.size) :
    Calls Tryd.prog 72 #[v, .int .u32 p] w fun e w' => ∃ v', e = .returned v' ∧ Own B (l ++ Lib.encodeRune p) v' w' ∧ Below B w w' := by
  obtain ⟨i0, hi, hz0, hz1, hz2⟩ := info_parts info5
  have t128 : decide ((p : Int) < 128) = true := by simp; omega
  have HE := Lib.hid (show Lib.byteCells (Lib.encodeRune (p : Int)) = [Value.int .u8 (p : Int)] by rw [Lib.byteCells_encodeRune]; unfold Lib.runeCells; rw [Lib.encodeRuneZ_one (by omega) (by omega)]; rfl)
  have HL := Lib.hid (show (Lib.encodeRune (p : Int)).length = 1 by have := congrArg List.length HE.out; rw [Lib.byteCells_length] at this; exact this)
  have q0 : (0 : Int) ≤ (p : Int) := by omega
  have q1 : (p : Int) < 128 := by omega
  clear hp
  go_enter Tryd.func72, Tryd.ntmps72
  go_wp2_with (at_builtin; refine wpList_append_own _ rfl _ _ 52 rfl B 5 i0 (.int .u8 0) 1 1 Tryd.underlying52 hi hz0 hz1 hz2 rfl (by decide) v l.length (Lib.byteCells l) rfl (h.alloc _) ⟨w.heap.size, 0, none⟩ 1 1 [Value.int .u8 (p : Int)] rfl rfl ?c1 ?c2 ?c3 ?c4 ?c5 ?_)
  case c1 => exact cells_new _ _ _
  case c2 => simp [Value.oneCell']
  case c3 => unfold maxLen; omega
  case c4 => omega
  case c5 => simp; omega
  intro v' w1 hown hg _
  go_wp2
  go_ret
  refine ⟨v', rfl, ?_, ((Below.refl B w).alloc hBw _).grown hg (by simp; omega) (fun k hk => (World.ownsRow.lt h k hk).1)⟩
  rw [Own, List.length_append, Lib.byteCells_append, HE.out, HL.out]
  exact hown
set_option maxRecDepth 100000 in
set_option maxHeartbeats 1000000 in
theorem rutf2_any (B : Nat) (l : List UInt8) (v : Value) (p : Nat) (hp : 128 ≤ p ∧ p < 2048) (w : World) (h : Own B l v w) (hlen : l.length + 4 ≤ 140737488355328) (hBw : B ≤ w.heap.size) :
    Calls Tryd.prog 72 #[v, .int .u32 p] w fun e w' => ∃ v', e = .returned v' ∧ Own B (l ++ Lib.encodeRune p) v' w' ∧ Below B w w' := by
  obtain ⟨i0, hi, hz0, hz1, hz2⟩ := info_parts info5
  have t128 : decide ((p : Int) < 128) = false := by simp; omega
  have t2048 : decide ((p : Int) < 2048) = true := by simp; omega
  have f1 : bits BinOp.or IntKind.u32 192 ((p : Int) / 64) = 192 + (p : Int) / 64 := or_192 (p / 64) (by omega)
  have f2 : bits BinOp.and IntKind.u32 (p : Int) 63 = (p : Int) % 64 := and_u32_63 p (by omega)
  have f3 : bits BinOp.or IntKind.u32 128 ((p : Int) % 64) = 128 + (p : Int) % 64 := or_128 (p % 64) (by omega)
  have g1 : (p : Int) / 64 < 32 := by omega
  have HE := Lib.hid (show Lib.byteCells (Lib.encodeRune (p : Int)) = [Value.int .u8 (192 + (p : Int) / 64), Value.int .u8 (128 + (p : Int) % 64)] by rw [Lib.byteCells_encodeRune]; unfold Lib.runeCells; rw [Lib.encodeRuneZ_two (by omega) (by omega)]; rfl)
  have HL := Lib.hid (show (Lib.encodeRune (p : Int)).length = 2 by have := congrArg List.length HE.out; rw [Lib.byteCells_length] at this; exact this)
  have q0 : (0 : Int) ≤ (p : Int) := by omega
  have q1 : (p : Int) ≤ 1114111 := by omega
  clear hp
  go_enter Tryd.func72, Tryd.ntmps72
  go_wp2_with (at_builtin; refine wpList_append_own _ rfl _ _ 52 rfl B 5 i0 (.int .u8 0) 1 1 Tryd.underlying52 hi hz0 hz1 hz2 rfl (by decide) v l.length (Lib.byteCells l) rfl (h.alloc _) ⟨w.heap.size, 0, none⟩ 2 2 [Value.int .u8 (192 + (p : Int) / 64), Value.int .u8 (128 + (p : Int) % 64)] rfl rfl ?c1 ?c2 ?c3 ?c4 ?c5 ?_)
  case c1 => exact cells_new _ _ _
  case c2 => simp [Value.oneCell']
  case c3 => unfold maxLen; omega
  case c4 => omega
  case c5 => simp; omega
  intro v' w1 hown hg _
  go_wp2
  go_ret
  refine ⟨v', rfl, ?_, ((Below.refl B w).alloc hBw _).grown hg (by simp; omega) (fun k hk => (World.ownsRow.lt h k hk).1)⟩
  rw [Own, List.length_append, Lib.byteCells_append, HE.out, HL.out]
  exact hown
set_option maxRecDepth 100000 in
set_option maxHeartbeats 1000000 in
theorem rutf3_any (B : Nat) (l : List UInt8) (v : Value) (p : Nat) (hp : 2048 ≤ p ∧ p < 65536 ∧ (p < 55296 ∨ 57343 < p)) (w : World) (h : Own B l v w) (hlen : l.length + 4 ≤ 140737488355328) (hBw : B ≤ w.heap.size) :
    Calls Tryd.prog 72 #[v, .int .u32 p] w fun e w' => ∃ v', e = .returned v' ∧ Own B (l ++ Lib.encodeRune p) v' w' ∧ Below B w w' := by
  obtain ⟨i0, hi, hz0, hz1, hz2⟩ := info_parts info5
  have t128 : decide ((p : Int) < 128) = false := by simp; omega
  have t2048 : decide ((p : Int) < 2048) = false := by simp; omega
  have t65536 : decide ((p : Int) < 65536) = true := by simp; omega
  have f1 : bits BinOp.or IntKind.u32 224 ((p : Int) / 4096) = 224 + (p : Int) / 4096 := or_224 (p / 4096) (by omega)
  have f4 : bits BinOp.and IntKind.u32 ((p : Int) / 64) 63 = (p : Int) / 64 % 64 := and_u32_63 (p / 64) (by omega)
  have f5 : bits BinOp.or IntKind.u32 128 ((p : Int) / 64 % 64) = 128 + (p : Int) / 64 % 64 := or_128 (p / 64 % 64) (by omega)
  have f2 : bits BinOp.and IntKind.u32 (p : Int) 63 = (p : Int) % 64 := and_u32_63 p (by omega)
  have f3 : bits BinOp.or IntKind.u32 128 ((p : Int) % 64) = 128 + (p : Int) % 64 := or_128 (p % 64) (by omega)
  have g1 : (p : Int) / 4096 < 16 := by omega
  have HE := Lib.hid (show Lib.byteCells (Lib.encodeRune (p : Int)) = [Value.int .u8 (224 + (p : Int) / 4096), Value.int .u8 (128 + (p : Int) / 64 % 64), Value.int .u8 (128 + (p : Int) % 64)] by rw [Lib.byteCells_encodeRune]; unfold Lib.runeCells; rw [Lib.encodeRuneZ_three (by omega)]; rfl)
  have HL := Lib.hid (show (Lib.encodeRune (p : Int)).length = 3 by have := congrArg List.length HE.out; rw [Lib.byteCells_length] at this; exact this)
  have q0 : (0 : Int) ≤ (p : Int) := by omega
  have q1 : (p : Int) ≤ 1114111 := by omega
  clear hp
  go_enter Tryd.func72, Tryd.ntmps72
  go_wp2_with (at_builtin; refine wpList_append_own _ rfl _ _ 52 rfl B 5 i0 (.int .u8 0) 1 1 Tryd.underlying52 hi hz0 hz1 hz2 rfl (by decide) v l.length (Lib.byteCells l) rfl (h.alloc _) ⟨w.heap.size, 0, none⟩ 3 3 [Value.int .u8 (224 + (p : Int) / 4096), Value.int .u8 (128 + (p : Int) / 64 % 64), Value.int .u8 (128 + (p : Int) % 64)] rfl rfl ?c1 ?c2 ?c3 ?c4 ?c5 ?_)
  case c1 => exact cells_new _ _ _
  case c2 => simp [Value.oneCell']
  case c3 => unfold maxLen; omega
  case c4 => omega
  case c5 => simp; omega
  intro v' w1 hown hg _
  go_wp2
  go_ret
  refine ⟨v', rfl, ?_, ((Below.refl B w).alloc hBw _).grown hg (by simp; omega) (fun k hk => (World.ownsRow.lt h k hk).1)⟩
  rw [Own, List.length_append, Lib.byteCells_append, HE.out, HL.out]
  exact hown
set_option maxRecDepth 100000 in
set_option maxHeartbeats 1000000 in
theorem rutf4_any (B : Nat) (l : List UInt8) (v : Value) (p : Nat) (hp : 65536 ≤ p ∧ p ≤ 1114111) (w : World) (h : Own B l v w) (hlen : l.length + 4 ≤ 140737488355328) (hBw : B ≤ w.heap.size) :
    Calls Tryd.prog 72 #[v, .int .u32 p] w fun e w' => ∃ v', e = .returned v' ∧ Own B (l ++ Lib.encodeRune p) v' w' ∧ Below B w w' := by
  obtain ⟨i0, hi, hz0, hz1, hz2⟩ := info_parts info5
  have t128 : decide ((p : Int) < 128) = false := by simp; omega
  have t2048 : decide ((p : Int) < 2048) = false := by simp; omega
  have t65536 : decide ((p : Int) < 65536) = false := by simp; omega
  have f1 : bits BinOp.or IntKind.u32 240 ((p : Int) / 262144) = 240 + (p : Int) / 262144 := or_240 (p / 262144) (by omega)
  have f6 : bits BinOp.and IntKind.u32 ((p : Int) / 4096) 63 = (p : Int) / 4096 % 64 := and_u32_63 (p / 4096) (by omega)
  have f7 : bits BinOp.or IntKind.u32 128 ((p : Int) / 4096 % 64) = 128 + (p : Int) / 4096 % 64 := or_128 (p / 4096 % 64) (by omega)
  have f4 : bits BinOp.and IntKind.u32 ((p : Int) / 64) 63 = (p : Int) / 64 % 64 := and_u32_63 (p / 64) (by omega)
  have f5 : bits BinOp.or IntKind.u32 128 ((p : Int) / 64 % 64) = 128 + (p : Int) / 64 % 64 := or_128 (p / 64 % 64) (by omega)
  have f2 : bits BinOp.and IntKind.u32 (p : Int) 63 = (p : Int) % 64 := and_u32_63 p (by omega)
  have f3 : bits BinOp.or IntKind.u32 128 ((p : Int) % 64) = 128 + (p : Int) % 64 := or_128 (p % 64) (by omega)
  have g1 : (p : Int) / 262144 < 8 := by omega
  have HE := Lib.hid (show Lib.byteCells (Lib.encodeRune (p : Int)) = [Value.int .u8 (240 + (p : Int) / 262144), Value.int .u8 (128 + (p : Int) / 4096 % 64), Value.int .u8 (128 + (p : Int) / 64 % 64), Value.int .u8 (128 + (p : Int) % 64)] by rw [Lib.byteCells_encodeRune]; unfold Lib.runeCells; rw [Lib.encodeRuneZ_four (by omega) (by omega)]; rfl)
  have HL := Lib.hid (show (Lib.encodeRune (p : Int)).length = 4 by have := congrArg List.length HE.out; rw [Lib.byteCells_length] at this; exact this)
  have q0 : (0 : Int) ≤ (p : Int) := by omega
  have q1 : (p : Int) ≤ 1114111 := by omega
  clear hp
  go_enter Tryd.func72, Tryd.ntmps72
  go_wp2_with (at_builtin; refine wpList_append_own _ rfl _ _ 52 rfl B 5 i0 (.int .u8 0) 1 1 Tryd.underlying52 hi hz0 hz1 hz2 rfl (by decide) v l.length (Lib.byteCells l) rfl (h.alloc _) ⟨w.heap.size, 0, none⟩ 4 4 [Value.int .u8 (240 + (p : Int) / 262144), Value.int .u8 (128 + (p : Int) / 4096 % 64), Value.int .u8 (128 + (p : Int) / 64 % 64), Value.int .u8 (128 + (p : Int) % 64)] rfl rfl ?c1 ?c2 ?c3 ?c4 ?c5 ?_)
  case c1 => exact cells_new _ _ _
  case c2 => simp [Value.oneCell']
  case c3 => unfold maxLen; omega
  case c4 => omega
  case c5 => simp; omega
  intro v' w1 hown hg _
  go_wp2
  go_ret
  refine ⟨v', rfl, ?_, ((Below.refl B w).alloc hBw _).grown hg (by simp; omega) (fun k hk => (World.ownsRow.lt h k hk).1)⟩
  rw [Own, List.length_append, Lib.byteCells_append, HE.out, HL.out]
  exact hown
end Go.Proofs.YthnkidncjkhndaaDoor
