/-
  Contracts of the program's pair, writeEscape and Encode: a text as UTF-8 (of at most 2^44 bytes).
-/
import GoSem.Core.Utf8
import Derived.Lib.Strings
import Derived.WalkKit
import Derived.WalkSpells
import Derived.WalkLawsBesides
import Derived.Deep.QuietTactic
import Derived.BigQuiet
import Derived.Laws.BitsAllLaws
import Derived.Lib.Hide
import Derived.Laws.BytesString
import Derived.Laws.Cells
import Derived.Deep.OwnRows
import Derived.Laws.CopyOwn
import Derived.Deep.AppendLies
import Derived.Lib.BitFns
import Derived.Lib.LaidTab
import Derived.Lib.RuneBytes
import Derived.Test.YtjbofhaiephedaaGreatProg
import Derived.Test.YtjbofhaiephedaaGreatShelf
import Derived.Test.YtjbofhaiephedaaGreatEp
namespace Go.Proofs.YtjbofhaiephedaaGreat
open Go.RowKit
theorem and_hi (u : Nat) (hu : u < 65536) : bits BinOp.and IntKind.u16 (u : Int) 64512 = ((u / 1024 * 1024 : Nat) : Int) := by
  rw [show (64512 : Int) = ((64512 : Nat) : Int) from rfl, u16_and_nat _ _ hu (by omega), and_topE u hu]
theorem and_15 (u : Nat) (hu : u < 65536) : bits BinOp.and IntKind.u16 (u : Int) 15 = ((u % 16 : Nat) : Int) := by
  rw [show (15 : Int) = ((15 : Nat) : Int) from rfl, u16_and_nat _ _ hu (by omega), show (15 : Nat) = 2 ^ 4 - 1 from rfl, Nat.and_two_pow_sub_one_eq_mod u 4]
abbrev digs : ByteArray := { data := #[48, 49, 50, 51, 52, 53, 54, 55, 56, 57, 65, 66, 67, 68, 69, 70] }
theorem digs_at : ∀ k : Fin 16, (digs[k.val]'k.isLt).toNat = (hx k.val).toNat := by decide
theorem pairTest_hi (u : Nat) (hu : u < 65536) : ((bits BinOp.and IntKind.u16 (u : Int) 64512) == 55296) = hiB u := by
  rw [and_hi u hu, Bool.eq_iff_iff]
  simp [hiB]
  omega
theorem pairTest_lo (u : Nat) (hu : u < 65536) : ((bits BinOp.and IntKind.u16 (u : Int) 64512) == 56320) = loB u := by
  rw [and_hi u hu, Bool.eq_iff_iff]
  simp [loB]
  omega
set_option maxRecDepth 100000 in
set_option maxHeartbeats 1000000 in
theorem pair_any (s : ByteArray) (i : Nat) (w : World) (h : i < ln s) (hs : s.size ≤ maxLen) :
    Calls Tryz.prog 158 #[.string s, .int .i64 i] w fun e w' => e = .returned (.bool (prB s i)) ∧ ∃ n, w' = w.drewN n := by
  have hl := ln_le s
  have hm : ((ln s : Nat) : Int) ≤ 4611686018427387903 := by unfold maxLen at hs; omega
  have hi : (i : Int) < (ln s : Int) := by omega
  have t1 := pairTest_hi (un s i) (un_lt s i)
  have t2 := pairTest_lo (un s (i + 1)) (un_lt s (i + 1))
  have HS := Lib.hid hs
  clear hs hl
  by_cases h1 : i + 1 < ln s
  · have h1' : (i : Int) + 1 < (ln s : Int) := by omega
    have e1 : ((i : Int) + 1) = ((i + 1 : Nat) : Int) := by omega
    cases hA : hiB (un s i)
    · rw [hA] at t1
      have HR := Lib.hid (show prB s i = false by simp [prB, hA])
      clear hA t2 e1
      go_enter Tryz.func158, Tryz.ntmps158
      go_wp2_with (first | (go_at_call 149; refine (len_any s _ HS.out).mono ?_; rintro e w' ⟨rfl, rfl⟩) | (go_at_call 156; refine (at_any s i _ h HS.out).mono ?_; rintro e w' ⟨rfl, n, rfl⟩))
      go_ret
      exact ⟨by rw [HR.out]; rfl, n, rfl⟩
    · rw [hA] at t1
      have HR := Lib.hid (show prB s i = loB (un s (i + 1)) by simp [prB, hA, h1])
      have c2 : ∀ w, Calls Tryz.prog 156 #[.string s, .int .i64 ((i : Int) + 1)] w fun e w' => e = .returned (.int .u16 (un s (i + 1))) ∧ ∃ n, w' = w.drewN n := fun w => by
        rw [e1]; exact at_any s (i + 1) w h1 HS.out
      clear hA e1
      go_enter Tryz.func158, Tryz.ntmps158
      go_wp2_with fail
      refine (len_any s _ HS.out).mono ?_
      rintro e w' ⟨rfl, rfl⟩
      go_wp2_with fail
      refine (at_any s i _ h HS.out).mono ?_
      rintro e w' ⟨rfl, n, rfl⟩
      go_wp2_with fail
      refine (c2 _).mono ?_
      rintro e w' ⟨rfl, n2, rfl⟩
      go_wp2
      go_ret
      exact ⟨by rw [HR.out]; rfl, n + n2, rfl⟩
  · have h1' : ¬ ((i : Int) + 1 < (ln s : Int)) := by omega
    have HR := Lib.hid (show prB s i = false by simp [prB, h1])
    clear t1 t2
    go_enter Tryz.func158, Tryz.ntmps158
    go_wp2_with (first | (go_at_call 149; refine (len_any s _ HS.out).mono ?_; rintro e w' ⟨rfl, rfl⟩))
    go_ret
    exact ⟨by rw [HR.out]; rfl, 0, rfl⟩
theorem cells_one (l : List UInt8) (c : UInt8) : Lib.byteCells (l ++ [c]) = Lib.byteCells l ++ [Value.int .u8 c.toNat] := by
  rw [Lib.byteCells_append]; rfl
theorem digs_int (x : Nat) (h : (((x : Int) % 16).toNat) < digs.size) : ((digs[((x : Int) % 16).toNat]'h).toNat : Int) = ((hx (x % 16)).toNat : Int) := by
  have e : ((x : Int) % 16).toNat = x % 16 := by omega
  have := digs_at ⟨x % 16, Nat.mod_lt _ (by omega)⟩
  simp only [e]
  exact congrArg Nat.cast this
theorem esc_step (B : Nat) (l : List UInt8) (x : Nat) (w : World) (h : Bld B l w) (hlen : l.length + 1 ≤ 140737488355328) (hBw : B ≤ w.heap.size) (hk : (((x : Int) % 16).toNat) < digs.size) :
    Calls Tryz.prog 168 #[.pointer (some ⟨B, 0, none⟩), .int .u8 ((digs[((x : Int) % 16).toNat]'hk).toNat)] w fun e w' => e = .returned .nilIface ∧ Bld B (l ++ [hx (x % 16)]) w' ∧ Below B w w' := by
  rw [digs_int x hk]
  refine (Tryz.Builder_WriteByte_k B B _ _ _ h (by rw [Lib.byteCells_length]; omega) hBw).mono ?_
  rintro e w' ⟨rfl, hb, bl, _⟩
  exact ⟨rfl, by rw [Bld, cells_one]; exact .inr hb, bl⟩
def EscRel (B : Nat) (l : List UInt8) (u : Nat) (w : World) (sh : Value) (wr : World) : Prop :=
  (sh = .int .i64 12 ∧ Bld B (l ++ [92, 117]) wr ∧ Below B w wr) ∨
  (sh = .int .i64 8 ∧ Bld B (l ++ [92, 117] ++ [hx (u / 4096 % 16)]) wr ∧ Below B w wr) ∨
  (sh = .int .i64 4 ∧ Bld B (l ++ [92, 117] ++ [hx (u / 4096 % 16)] ++ [hx (u / 256 % 16)]) wr ∧ Below B w wr) ∨
  (sh = .int .i64 0 ∧ Bld B (l ++ [92, 117] ++ [hx (u / 4096 % 16)] ++ [hx (u / 256 % 16)] ++ [hx (u / 16 % 16)]) wr ∧ Below B w wr) ∨
  (sh = .int .i64 (-4) ∧ Bld B (l ++ [92, 117] ++ [hx (u / 4096 % 16)] ++ [hx (u / 256 % 16)] ++ [hx (u / 16 % 16)] ++ [hx (u % 16)]) wr ∧ Below B w wr)
set_option maxRecDepth 100000 in
set_option maxHeartbeats 1000000 in
theorem writeEscape_any (B : Nat) (l : List UInt8) (u : Nat) (hu : u < 65536) (w : World) (h : Bld B l w) (hlen : l.length + 6 ≤ 140737488355328) (hBw : B ≤ w.heap.size) :
    Calls Tryz.prog 159 #[.pointer (some ⟨B, 0, none⟩), .int .u16 u] w fun e w' => e = .returned (.tuple #[]) ∧ Bld B (l ++ esc u) w' ∧ Below B w w' := by
  have hs := Tryz.Builder_WriteString_k B B (Lib.byteCells l) { data := #[92, 117] } w h (by rw [Lib.byteCells_length]; show l.length + 2 ≤ _; omega) hBw
  have a1 : bits BinOp.and IntKind.u16 ((u : Int) / 4096) 15 = ((u : Int) / 4096) % 16 := and_15 (u / 4096) (by omega)
  have a2 : bits BinOp.and IntKind.u16 ((u : Int) / 256) 15 = ((u : Int) / 256) % 16 := and_15 (u / 256) (by omega)
  have a3 : bits BinOp.and IntKind.u16 ((u : Int) / 16) 15 = ((u : Int) / 16) % 16 := and_15 (u / 16) (by omega)
  have a4 : bits BinOp.and IntKind.u16 (u : Int) 15 = (u : Int) % 16 := and_15 u hu
  have H1 := Lib.hid hu
  have H2 := Lib.hid hlen
  clear hu hlen
  go_enter Tryz.func159, Tryz.ntmps159
  go_wp2_with fail
  refine hs.mono ?_
  rintro e w1 ⟨rfl, hb1, bl1, _⟩
  have hI1 : Bld B (l ++ [92, 117]) w1 := by rw [Bld, Lib.byteCells_append]; exact .inr hb1
  clear hs hb1
  go_wp2
  go_loopw [4] (fun sh wr => EscRel B l u w sh wr) (fun sh _ => (intOf sh + 4).toNat)
  case atStart => exact .inl ⟨rfl, hI1, bl1⟩
  case round =>
    rcases hrel with ⟨rfl, hI, hb⟩ | ⟨rfl, hI, hb⟩ | ⟨rfl, hI, hb⟩ | ⟨rfl, hI, hb⟩ | ⟨rfl, hI, hb⟩
    · go_wp2_with (go_at_call 168; refine (esc_step B _ (u / 4096) _ hI (by have := H2.out; simp; omega) (Nat.le_trans hBw hb.size) _).mono ?_; rintro e w2 ⟨rfl, hI2, hb2⟩)
      go_roundw
      case rel => exact .inr (.inl ⟨rfl, hI2, hb.trans hb2⟩)
      case measure => simp [intOf]
    · go_wp2_with (go_at_call 168; refine (esc_step B _ (u / 256) _ hI (by have := H2.out; simp; omega) (Nat.le_trans hBw hb.size) _).mono ?_; rintro e w2 ⟨rfl, hI2, hb2⟩)
      go_roundw
      case rel => exact .inr (.inr (.inl ⟨rfl, hI2, hb.trans hb2⟩))
      case measure => simp [intOf]
    · go_wp2_with (go_at_call 168; refine (esc_step B _ (u / 16) _ hI (by have := H2.out; simp; omega) (Nat.le_trans hBw hb.size) _).mono ?_; rintro e w2 ⟨rfl, hI2, hb2⟩)
      go_roundw
      case rel => exact .inr (.inr (.inr (.inl ⟨rfl, hI2, hb.trans hb2⟩)))
      case measure => simp [intOf]
    · go_wp2_with (go_at_call 168; refine (esc_step B _ u _ hI (by have := H2.out; simp; omega) (Nat.le_trans hBw hb.size) _).mono ?_; rintro e w2 ⟨rfl, hI2, hb2⟩)
      go_roundw
      case rel => exact .inr (.inr (.inr (.inr ⟨rfl, hI2, hb.trans hb2⟩)))
      case measure => simp [intOf]
    · have he : l ++ esc u = l ++ [92, 117] ++ [hx (u / 4096 % 16)] ++ [hx (u / 256 % 16)] ++ [hx (u / 16 % 16)] ++ [hx (u % 16)] := by
        have := H1.out
        simp [esc, show u / 4096 % 16 = u / 4096 by omega]
      have HE := Lib.hid he
      clear he
      go_wp2
      go_end0
      exact ⟨rfl, by rw [HE.out]; exact hI, hb⟩

end Go.Proofs.YtjbofhaiephedaaGreat
