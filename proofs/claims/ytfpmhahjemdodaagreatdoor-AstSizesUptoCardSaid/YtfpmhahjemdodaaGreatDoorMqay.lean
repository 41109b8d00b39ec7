/-
  The contract of the program's Named. Tokens as values; the text of a list of units of the call's own; pure facts on strings. Plain lemmas on a text as UTF-8: pairs, escapes, the bytes from a place on. No program in it. Contracts of the program's pair, writeEscape and Encode: a text as UTF-8 (of at most 2^44 bytes). Literals of strings and names, and what they are read as. No program in it. The contract of the program's spelt: a unit's escape.
-/
import Derived.OwnWalk
import GoSem.Core.Utf8
import Derived.Lib.Strings
import Derived.WalkKit
import Derived.WalkSpells
import Derived.WalkLawsBesides
import Derived.Deep.QuietTactic
import Derived.BigQuiet
import Derived.Laws.BitsAllLaws
import Derived.Lib.Hide
import Derived.Laws.BytesString
import Derived.Laws.Cells
import Derived.Deep.OwnRows
import Derived.Laws.CopyOwn
import Derived.Deep.AppendLies
import Derived.Lib.BitFns
import Derived.Lib.LaidTab
import Ieee.Arith
import GoSem.Core.Float
import Derived.Deep.RegionHeld3
import Derived.Laws.Closers25b
import Derived.ProofKit
import Derived.OpenShut
import Derived.SizedLaws
import Derived.Deep.RegionWith
import Derived.BigRegion
import Derived.Laws.FloatArith
import Derived.Laws.Externs
import Derived.Lib.ItoaNum
import Derived.Deep.DeepCutAuto
import Derived.Deep.WholeRow
import Derived.Laws.Tables
import Derived.Laws.EntriesVeiled
import Derived.Lib.SlTrimSet
import Derived.Lib.Case
import Derived.Lib.AppendIntMem
import Derived.Test.YtfpmhahjemdodaaGreatDoorProg
import Derived.Test.YtfpmhahjemdodaaGreatDoorRows
import Derived.Test.YtfpmhahjemdodaaGreatDoorShelf
import Derived.Test.YtfpmhahjemdodaaGreatDoorMqax
import Derived.Test.YtfpmhahjemdodaaGreatDoorMqau
import Derived.Test.YtfpmhahjemdodaaGreatDoorUs
import Derived.Lib.RuneBytes
namespace Go.Proofs.YtfpmhahjemdodaaGreatDoor
open Go.RowKit
def nmB : Bool → List Nat → Bool
  | _, [] => true
  | b, c :: r => fitN b c && nmB false r
def nmdL (l : List Nat) : Bool := nmB true l && !l.isEmpty
theorem gt_len (s : ByteArray) : (!(us s).isEmpty) = decide (0 < ln s) := by
  rw [← us_length]
  cases us s <;> simp
set_option maxRecDepth 100000 in
set_option maxHeartbeats 1000000 in
theorem xNamed_any (s : ByteArray) (w : World) (hs : s.size ≤ 140737488355328) :
    Calls Tryz.prog 151 #[.string s] w fun e w' => e = .returned (.bool (nmdL (us s))) ∧ ∃ n, w' = w.drewN n := by
  have hs63 : s.size ≤ maxLen := by unfold maxLen; omega
  have C1 := Lib.hid (fun W => len_any s W hs63)
  have C2 := Lib.hid (fun (j : Nat) W => xunit_any s j W hs63)
  have hln := ln_le s
  have hl : ((ln s : Nat) : Int) ≤ 140737488355328 := by omega
  obtain ⟨R, hR⟩ : ∃ R, nmdL (us s) = R := ⟨_, rfl⟩
  rw [hR]
  have HR := Lib.hid hR
  clear hs hs63 hln hR
  go_enter Tryz.func151, Tryz.ntmps151
  go_wp2_with fail
  refine (C1.out _).mono ?_
  rintro e w' ⟨rfl, rfl⟩
  go_wp2
  go_loopw [6] (fun iv wr => ∃ (i : Nat), iv = .int .i64 i ∧ i ≤ ln s ∧ Hid (R = (nmB (i == 0) ((us s).drop i) && !(us s).isEmpty)) ∧ ∃ m, wr = w.drewN m) (fun iv _ => ln s - (intOf iv).toNat)
  case atStart => exact ⟨0, rfl, Nat.zero_le _, Lib.hid HR.out.symm, 0, rfl⟩
  case round =>
    obtain ⟨i, rfl, hi, HJ, n0, rfl⟩ := hrel
    by_cases hlt : i < ln s
    · obtain ⟨c, hc1, hc2⟩ := drop_step (L := us s) (k := i) (by rw [us_length]; exact hlt)
      have C2' := Lib.hid (fun W => C2.out i W)
      rw [hc2] at C2'
      have C3 := Lib.hid (fun W => xfits_any c i W)
      have t1 : (i : Int) < (ln s : Int) := by omega
      have hs1 : R = ((fitN (i == 0) c && nmB false ((us s).drop (i + 1))) && !(us s).isEmpty) := by rw [HJ.out, hc1]; rfl
      cases hf : fitN (i == 0) c
      · rw [hf] at C3 hs1
        have HJ2 : Hid (R = false) := Lib.hid (by rw [hs1]; rfl)
        clear hc1 hc2 hs1 hf
        go_wp2_with fail
        refine (C2'.out _).mono ?_
        rintro e w' ⟨rfl, n1, rfl⟩
        go_wp2_with fail
        refine (C3.out _).mono ?_
        rintro e w' ⟨rfl, rfl⟩
        go_wp2
        go_ret
        exact ⟨by rw [HJ2.out]; rfl, n0 + n1, by first | rfl | simp⟩
      · rw [hf] at C3 hs1
        have HJ2 : Hid (R = (nmB (i + 1 == 0) ((us s).drop (i + 1)) && !(us s).isEmpty)) := Lib.hid (by rw [hs1, Bool.true_and]; rfl)
        clear hc1 hc2 hs1 hf
        go_wp2_with fail
        refine (C2'.out _).mono ?_
        rintro e w' ⟨rfl, n1, rfl⟩
        go_wp2_with fail
        refine (C3.out _).mono ?_
        rintro e w' ⟨rfl, rfl⟩
        go_wp2
        go_roundw
        case rel => exact ⟨i + 1, by go_num, by omega, HJ2, n0 + n1, by first | rfl | simp⟩
        case measure => simp [intOf]; omega
    · have hj2 : i = ln s := by omega
      have HJ2 : Hid (R = decide (0 < ln s)) := Lib.hid (by
        rw [HJ.out, List.drop_eq_nil_iff.2 (by rw [us_length]; omega), gt_len]
        exact Bool.true_and _)
      have t1 : ¬ (i : Int) < (ln s : Int) := by omega
      go_wp2_with fail
      refine (C1.out _).mono ?_
      rintro e w' ⟨rfl, rfl⟩
      go_wp2
      go_ret
      exact ⟨by rw [HJ2.out]; simp, n0, rfl⟩

end Go.Proofs.YtfpmhahjemdodaaGreatDoor
namespace Go.Proofs.YtfpmhahjemdodaaGreatDoor
open Go.RowKit
theorem make_own {B : Nat} {l : List Nat} {v : Value} {w : World} (h : Own16 B l v w) (hu : ∀ u ∈ l, u < 65536) (hs : 2 * l.length ≤ 140737488355328) :
    Calls Tryz.prog 183 #[v] w fun e w' => e = .returned (.string ⟨(bL l).toArray⟩) ∧ Below w.heap.size w w' := by
  obtain ⟨hn, h⟩ := h
  rcases h with ⟨rfl, h0⟩ | ⟨g, cap, cur, rfl, hb, hg, hc, hm, hsz, ht⟩
  · obtain rfl : l = [] := List.eq_nil_of_length_eq_zero h0
    exact make_none none 0 w
  · refine make_any l hu g 0 cap w (Array.getElem?_eq_some_iff.1 hg).1 ?_ hs
    intro k u hk
    have hk1 : k < l.length := (List.getElem?_eq_some_iff.1 hk).1
    have e1 : (cur.toList.take (l.length * 1))[k]? = some (.int .u16 (u : Nat)) := by rw [ht, List.getElem?_map, hk]; rfl
    rw [List.getElem?_take_of_lt (by omega)] at e1
    simp only [World.cell?, hg, Nat.zero_add]
    simpa using e1
/-! ### Strings, one unit further -/
end Go.Proofs.YtfpmhahjemdodaaGreatDoor
namespace Go.Proofs.YtfpmhahjemdodaaGreatDoor
/-- A hexadecimal digit. -/
def hx (k : Nat) : UInt8 := if k < 10 then UInt8.ofNat (48 + k) else UInt8.ofNat (55 + k)
/-- The six bytes of a lone unit. -/
def esc (u : Nat) : List UInt8 := [92, 117, hx (u / 4096), hx (u / 256 % 16), hx (u / 16 % 16), hx (u % 16)]
def hiB (u : Nat) : Bool := decide (55296 ≤ u) && decide (u < 56320)
def loB (u : Nat) : Bool := decide (56320 ≤ u) && decide (u < 57344)
/-- Do the units at i and behind it make a pair? -/
def prB (s : ByteArray) (i : Nat) : Bool := decide (i + 1 < ln s) && (hiB (un s i) && loB (un s (i + 1)))
/-- A pair's code point. -/
def prP (s : ByteArray) (i : Nat) : Nat := 65536 + (un s i - 55296) * 1024 + (un s (i + 1) - 56320)
/-- The bytes of a unit that is in no pair. -/
def oneU (u : Nat) : List UInt8 := if hiB u || loB u then esc u else Lib.encodeRune u
/-- The bytes of the text from a place on. -/
def encF (s : ByteArray) : Nat → Nat → List UInt8
  | 0, _ => []
  | f + 1, i => if i < ln s then (if prB s i = true then Lib.encodeRune (prP s i) ++ encF s f (i + 2) else oneU (un s i) ++ encF s f (i + 1)) else []
def encS (s : ByteArray) : List UInt8 := encF s (ln s) 0
theorem encF_end (s : ByteArray) (f i : Nat) (h : ¬ i < ln s) : encF s f i = [] := by cases f <;> simp [encF, h]
theorem encF_pair (s : ByteArray) (f i : Nat) (h : i < ln s) (hp : prB s i = true) : encF s (f + 1) i = Lib.encodeRune (prP s i) ++ encF s f (i + 2) := by simp [encF, h, hp]
theorem encF_one (s : ByteArray) (f i : Nat) (h : i < ln s) (hp : prB s i = false) : encF s (f + 1) i = oneU (un s i) ++ encF s f (i + 1) := by simp [encF, h, hp]
theorem prB_parts (s : ByteArray) (i : Nat) (h : prB s i = true) : i + 1 < ln s ∧ 55296 ≤ un s i ∧ un s i < 56320 ∧ 56320 ≤ un s (i + 1) ∧ un s (i + 1) < 57344 := by
  simp [prB, hiB, loB] at h
  omega
theorem enc_le (r : Int) : (Lib.encodeRune r).length ≤ 4 := by
  have := Lib.runeCells_le r
  rw [Lib.runeCells_length] at this
  omega
theorem and_topE (u : Nat) (hu : u < 65536) : u &&& 64512 = u / 1024 * 1024 := by
  have h : u &&& 64512 = (u >>> 10) <<< 10 := by
    apply Nat.eq_of_testBit_eq
    intro i
    rw [Nat.testBit_and, Nat.testBit_shiftLeft, Nat.testBit_shiftRight, show 64512 = (2 ^ 6 - 1) <<< 10 from rfl, Nat.testBit_shiftLeft, Nat.testBit_two_pow_sub_one]
    by_cases h1 : 10 ≤ i
    · rw [show 10 + (i - 10) = i by omega]
      by_cases h2 : i - 10 < 6
      · simp [h1, h2]
      · have : u.testBit i = false := Nat.testBit_lt_two_pow (Nat.lt_of_lt_of_le hu (by
          have : 2 ^ 16 ≤ 2 ^ i := Nat.pow_le_pow_right (by omega) (by omega)
          simpa using this))
        simp [this]
    · simp [h1]
  rw [h, Nat.shiftLeft_eq, Nat.shiftRight_eq_div_pow]

end Go.Proofs.YtfpmhahjemdodaaGreatDoor
namespace Go.Proofs.YtfpmhahjemdodaaGreatDoor
open Go.RowKit
theorem and_hi (u : Nat) (hu : u < 65536) : bits BinOp.and IntKind.u16 (u : Int) 64512 = ((u / 1024 * 1024 : Nat) : Int) := by
  rw [show (64512 : Int) = ((64512 : Nat) : Int) from rfl, u16_and_nat _ _ hu (by omega), and_topE u hu]
theorem and_15 (u : Nat) (hu : u < 65536) : bits BinOp.and IntKind.u16 (u : Int) 15 = ((u % 16 : Nat) : Int) := by
  rw [show (15 : Int) = ((15 : Nat) : Int) from rfl, u16_and_nat _ _ hu (by omega), show (15 : Nat) = 2 ^ 4 - 1 from rfl, Nat.and_two_pow_sub_one_eq_mod u 4]
abbrev digs : ByteArray := { data := #[48, 49, 50, 51, 52, 53, 54, 55, 56, 57, 65, 66, 67, 68, 69, 70] }
theorem digs_at : ∀ k : Fin 16, (digs[k.val]'k.isLt).toNat = (hx k.val).toNat := by decide
theorem pairTest_hi (u : Nat) (hu : u < 65536) : ((bits BinOp.and IntKind.u16 (u : Int) 64512) == 55296) = hiB u := by
  rw [and_hi u hu, Bool.eq_iff_iff]
  simp [hiB]
  omega
theorem pairTest_lo (u : Nat) (hu : u < 65536) : ((bits BinOp.and IntKind.u16 (u : Int) 64512) == 56320) = loB u := by
  rw [and_hi u hu, Bool.eq_iff_iff]
  simp [loB]
  omega
set_option maxRecDepth 100000 in
set_option maxHeartbeats 1000000 in
theorem pair_any (s : ByteArray) (i : Nat) (w : World) (h : i < ln s) (hs : s.size ≤ maxLen) :
    Calls Tryz.prog 163 #[.string s, .int .i64 i] w fun e w' => e = .returned (.bool (prB s i)) ∧ ∃ n, w' = w.drewN n := by
  have hl := ln_le s
  have hm : ((ln s : Nat) : Int) ≤ 4611686018427387903 := by unfold maxLen at hs; omega
  have hi : (i : Int) < (ln s : Int) := by omega
  have t1 := pairTest_hi (un s i) (un_lt s i)
  have t2 := pairTest_lo (un s (i + 1)) (un_lt s (i + 1))
  have HS := Lib.hid hs
  clear hs hl
  by_cases h1 : i + 1 < ln s
  · have h1' : (i : Int) + 1 < (ln s : Int) := by omega
    have e1 : ((i : Int) + 1) = ((i + 1 : Nat) : Int) := by omega
    cases hA : hiB (un s i)
    · rw [hA] at t1
      have HR := Lib.hid (show prB s i = false by simp [prB, hA])
      clear hA t2 e1
      go_enter Tryz.func163, Tryz.ntmps163
      go_wp2_with (first | (go_at_call 158; refine (len_any s _ HS.out).mono ?_; rintro e w' ⟨rfl, rfl⟩) | (go_at_call 161; refine (at_any s i _ h HS.out).mono ?_; rintro e w' ⟨rfl, n, rfl⟩))
      go_ret
      exact ⟨by rw [HR.out]; rfl, n, rfl⟩
    · rw [hA] at t1
      have HR := Lib.hid (show prB s i = loB (un s (i + 1)) by simp [prB, hA, h1])
      have c2 : ∀ w, Calls Tryz.prog 161 #[.string s, .int .i64 ((i : Int) + 1)] w fun e w' => e = .returned (.int .u16 (un s (i + 1))) ∧ ∃ n, w' = w.drewN n := fun w => by
        rw [e1]; exact at_any s (i + 1) w h1 HS.out
      clear hA e1
      go_enter Tryz.func163, Tryz.ntmps163
      go_wp2_with fail
      refine (len_any s _ HS.out).mono ?_
      rintro e w' ⟨rfl, rfl⟩
      go_wp2_with fail
      refine (at_any s i _ h HS.out).mono ?_
      rintro e w' ⟨rfl, n, rfl⟩
      go_wp2_with fail
      refine (c2 _).mono ?_
      rintro e w' ⟨rfl, n2, rfl⟩
      go_wp2
      go_ret
      exact ⟨by rw [HR.out]; rfl, n + n2, rfl⟩
  · have h1' : ¬ ((i : Int) + 1 < (ln s : Int)) := by omega
    have HR := Lib.hid (show prB s i = false by simp [prB, h1])
    clear t1 t2
    go_enter Tryz.func163, Tryz.ntmps163
    go_wp2_with (first | (go_at_call 158; refine (len_any s _ HS.out).mono ?_; rintro e w' ⟨rfl, rfl⟩))
    go_ret
    exact ⟨by rw [HR.out]; rfl, 0, rfl⟩
theorem cells_one (l : List UInt8) (c : UInt8) : Lib.byteCells (l ++ [c]) = Lib.byteCells l ++ [Value.int .u8 c.toNat] := by
  rw [Lib.byteCells_append]; rfl
theorem digs_int (x : Nat) (h : (((x : Int) % 16).toNat) < digs.size) : ((digs[((x : Int) % 16).toNat]'h).toNat : Int) = ((hx (x % 16)).toNat : Int) := by
  have e : ((x : Int) % 16).toNat = x % 16 := by omega
  have := digs_at ⟨x % 16, Nat.mod_lt _ (by omega)⟩
  simp only [e]
  exact congrArg Nat.cast this
theorem esc_step (B : Nat) (l : List UInt8) (x : Nat) (w : World) (h : Bld B l w) (hlen : l.length + 1 ≤ 140737488355328) (hBw : B ≤ w.heap.size) (hk : (((x : Int) % 16).toNat) < digs.size) :
    Calls Tryz.prog 84 #[.pointer (some ⟨B, 0, none⟩), .int .u8 ((digs[((x : Int) % 16).toNat]'hk).toNat)] w fun e w' => e = .returned .nilIface ∧ Bld B (l ++ [hx (x % 16)]) w' ∧ Below B w w' := by
  rw [digs_int x hk]
  refine (Tryz.Builder_WriteByte_k B B _ _ _ h (by rw [Lib.byteCells_length]; omega) hBw).mono ?_
  rintro e w' ⟨rfl, hb, bl, _⟩
  exact ⟨rfl, by rw [Bld, cells_one]; exact .inr hb, bl⟩
def EscRel (B : Nat) (l : List UInt8) (u : Nat) (w : World) (sh : Value) (wr : World) : Prop :=
  (sh = .int .i64 12 ∧ Bld B (l ++ [92, 117]) wr ∧ Below B w wr) ∨
  (sh = .int .i64 8 ∧ Bld B (l ++ [92, 117] ++ [hx (u / 4096 % 16)]) wr ∧ Below B w wr) ∨
  (sh = .int .i64 4 ∧ Bld B (l ++ [92, 117] ++ [hx (u / 4096 % 16)] ++ [hx (u / 256 % 16)]) wr ∧ Below B w wr) ∨
  (sh = .int .i64 0 ∧ Bld B (l ++ [92, 117] ++ [hx (u / 4096 % 16)] ++ [hx (u / 256 % 16)] ++ [hx (u / 16 % 16)]) wr ∧ Below B w wr) ∨
  (sh = .int .i64 (-4) ∧ Bld B (l ++ [92, 117] ++ [hx (u / 4096 % 16)] ++ [hx (u / 256 % 16)] ++ [hx (u / 16 % 16)] ++ [hx (u % 16)]) wr ∧ Below B w wr)
set_option maxRecDepth 100000 in
set_option maxHeartbeats 1000000 in
theorem writeEscape_any (B : Nat) (l : List UInt8) (u : Nat) (hu : u < 65536) (w : World) (h : Bld B l w) (hlen : l.length + 6 ≤ 140737488355328) (hBw : B ≤ w.heap.size) :
    Calls Tryz.prog 164 #[.pointer (some ⟨B, 0, none⟩), .int .u16 u] w fun e w' => e = .returned (.tuple #[]) ∧ Bld B (l ++ esc u) w' ∧ Below B w w' := by
  have hs := Tryz.Builder_WriteString_k B B (Lib.byteCells l) { data := #[92, 117] } w h (by rw [Lib.byteCells_length]; show l.length + 2 ≤ _; omega) hBw
  have a1 : bits BinOp.and IntKind.u16 ((u : Int) / 4096) 15 = ((u : Int) / 4096) % 16 := and_15 (u / 4096) (by omega)
  have a2 : bits BinOp.and IntKind.u16 ((u : Int) / 256) 15 = ((u : Int) / 256) % 16 := and_15 (u / 256) (by omega)
  have a3 : bits BinOp.and IntKind.u16 ((u : Int) / 16) 15 = ((u : Int) / 16) % 16 := and_15 (u / 16) (by omega)
  have a4 : bits BinOp.and IntKind.u16 (u : Int) 15 = (u : Int) % 16 := and_15 u hu
  have H1 := Lib.hid hu
  have H2 := Lib.hid hlen
  clear hu hlen
  go_enter Tryz.func164, Tryz.ntmps164
  go_wp2_with fail
  refine hs.mono ?_
  rintro e w1 ⟨rfl, hb1, bl1, _⟩
  have hI1 : Bld B (l ++ [92, 117]) w1 := by rw [Bld, Lib.byteCells_append]; exact .inr hb1
  clear hs hb1
  go_wp2
  go_loopw [4] (fun sh wr => EscRel B l u w sh wr) (fun sh _ => (intOf sh + 4).toNat)
  case atStart => exact .inl ⟨rfl, hI1, bl1⟩
  case round =>
    rcases hrel with ⟨rfl, hI, hb⟩ | ⟨rfl, hI, hb⟩ | ⟨rfl, hI, hb⟩ | ⟨rfl, hI, hb⟩ | ⟨rfl, hI, hb⟩
    · go_wp2_with (go_at_call 84; refine (esc_step B _ (u / 4096) _ hI (by have := H2.out; simp; omega) (Nat.le_trans hBw hb.size) _).mono ?_; rintro e w2 ⟨rfl, hI2, hb2⟩)
      go_roundw
      case rel => exact .inr (.inl ⟨rfl, hI2, hb.trans hb2⟩)
      case measure => simp [intOf]
    · go_wp2_with (go_at_call 84; refine (esc_step B _ (u / 256) _ hI (by have := H2.out; simp; omega) (Nat.le_trans hBw hb.size) _).mono ?_; rintro e w2 ⟨rfl, hI2, hb2⟩)
      go_roundw
      case rel => exact .inr (.inr (.inl ⟨rfl, hI2, hb.trans hb2⟩))
      case measure => simp [intOf]
    · go_wp2_with (go_at_call 84; refine (esc_step B _ (u / 16) _ hI (by have := H2.out; simp; omega) (Nat.le_trans hBw hb.size) _).mono ?_; rintro e w2 ⟨rfl, hI2, hb2⟩)
      go_roundw
      case rel => exact .inr (.inr (.inr (.inl ⟨rfl, hI2, hb.trans hb2⟩)))
      case measure => simp [intOf]
    · go_wp2_with (go_at_call 84; refine (esc_step B _ u _ hI (by have := H2.out; simp; omega) (Nat.le_trans hBw hb.size) _).mono ?_; rintro e w2 ⟨rfl, hI2, hb2⟩)
      go_roundw
      case rel => exact .inr (.inr (.inr (.inr ⟨rfl, hI2, hb.trans hb2⟩)))
      case measure => simp [intOf]
    · have he : l ++ esc u = l ++ [92, 117] ++ [hx (u / 4096 % 16)] ++ [hx (u / 256 % 16)] ++ [hx (u / 16 % 16)] ++ [hx (u % 16)] := by
        have := H1.out
        simp [esc, show u / 4096 % 16 = u / 4096 by omega]
      have HE := Lib.hid he
      clear he
      go_wp2
      go_end0
      exact ⟨rfl, by rw [HE.out]; exact hI, hb⟩

end Go.Proofs.YtfpmhahjemdodaaGreatDoor
namespace Go.Proofs.YtfpmhahjemdodaaGreatDoor
/-- A hexadecimal digit's letter, a capital. -/
def hxU (d : Nat) : Nat := if d < 10 then 48 + d else 55 + d
/-- A unit's escape. -/
def escU (c : Nat) : List Nat := [92, 117, hxU (c / 4096 % 16), hxU (c / 256 % 16), hxU (c / 16 % 16), hxU (c % 16)]
def speU (c : Nat) : List Nat := if c < 128 then [c] else escU c
/-- A name's literal. -/
def speL (s : List Nat) : List Nat := s.flatMap speU
end Go.Proofs.YtfpmhahjemdodaaGreatDoor
namespace Go.Proofs.YtfpmhahjemdodaaGreatDoor
open Go.RowKit
theorem alloc_cells (w : World) (cs : List Value) (t : TypeId) : ∀ j u, cs[j]? = some u → (w.alloc (.cells cs.toArray t)).cell? (Addr.add ⟨w.heap.size, 0, none⟩ j) = some u := by
  intro j u h
  have h2 := heap_alloc_last w (.cells cs.toArray t)
  have e : Addr.add ⟨w.heap.size, 0, none⟩ j = ⟨w.heap.size, j, none⟩ := by
    unfold Addr.add
    by_cases hj : j = 0 <;> simp [hj]
  rw [e]
  unfold World.cell?
  simp only []
  rw [h2]
  simpa using h
theorem digs_W : ∀ k : Fin 16, IntKind.u16.wrap ((digs[k.val]'k.isLt).toNat : Int) = ((hxU k.val : Nat) : Int) := by decide
theorem digs_V (x : Nat) (h : x % 16 < digs.size) : IntKind.u16.wrap ((digs[x % 16]'h).toNat : Int) = ((hxU (x % 16) : Nat) : Int) := digs_W ⟨x % 16, Nat.mod_lt _ (by omega)⟩
theorem hxU_lt {d : Nat} (h : d < 16) : hxU d < 128 := by unfold hxU; split <;> omega
def SpRel (B : Nat) (l : List Nat) (u : Nat) (w : World) (v iv : Value) (wr : World) : Prop :=
  ∃ i : Nat, i ≤ 4 ∧ iv = .int .i64 i ∧ Own16 B (l ++ (escU u).take (2 + i)) v wr ∧ Below B w wr
set_option maxRecDepth 100000 in
set_option maxHeartbeats 1000000 in
theorem xspelt_any (B : Nat) (l : List Nat) (v : Value) (u : Nat) (w : World) (H : Own16 B l v w) (hB : B ≤ w.heap.size) (hu : u < 65536) (hl : l.length ≤ 1099511627776) :
    Calls Tryz.prog 182 #[v, .int .u16 u] w fun e w' => ∃ v', e = .returned v' ∧ Own16 B (l ++ escU u) v' w' ∧ Below B w w' := by
  obtain ⟨i0, hi, hz0, hz1, hz2⟩ := info_parts info_u16
  have a1 : bits BinOp.and IntKind.u16 ((u : Int) / 4096) 15 = ((u : Int) / 4096) % 16 := and_15 (u / 4096) (by omega)
  have a2 : bits BinOp.and IntKind.u16 ((u : Int) / 256) 15 = ((u : Int) / 256) % 16 := and_15 (u / 256) (by omega)
  have a3 : bits BinOp.and IntKind.u16 ((u : Int) / 16) 15 = ((u : Int) / 16) % 16 := and_15 (u / 16) (by omega)
  have a4 : bits BinOp.and IntKind.u16 (u : Int) 15 = (u : Int) % 16 := and_15 u hu
  have HU := Lib.hid hu
  clear hu
  go_enter Tryz.func182, Tryz.ntmps182
  go_wp2_with (at_builtin; refine wpList_append_own _ rfl _ _ 117 rfl (B) 54 i0 (.int .u16 0) 1 2 Tryz.underlying117 hi hz0 hz1 hz2 rfl (by decide) _ _ _ rfl (World.ownsRow.alloc (w := w) H _) ⟨(w).heap.size, 0, none⟩ 2 2 [.int .u16 92, .int .u16 117] rfl rfl (alloc_cells _ _ _) (by simp [Value.oneCell']) (by unfold maxLen; omega) (by omega) (by first | omega | (simp; omega)) ?_)
  intro v1 w1 hown hg _
  have hb1 : Below B w w1 := ((Below.refl B w).alloc hB _).grown hg (by simp; omega) (fun j hj => (World.ownsRow.lt H j hj).1)
  have o1 : Own16 B (l ++ [92, 117]) v1 w1 := by simpa [Own16] using hown
  clear hown hg H
  go_wp2
  go_loopw [0, 9] (fun lv iv wr => SpRel B l u w lv iv wr) (fun _ iv _ => 4 - (intOf iv).toNat)
  case atStart => exact ⟨0, by omega, by go_num, o1, hb1⟩
  case round =>
    obtain ⟨i, hi4, rfl, H, hb⟩ := hrel
    have hBw : B ≤ wr.heap.size := Nat.le_trans hB hb.size
    have hcase : i = 0 ∨ i = 1 ∨ i = 2 ∨ i = 3 ∨ i = 4 := by omega
    rcases hcase with rfl | rfl | rfl | rfl | rfl
    · go_wp2_with (at_builtin; refine wpList_append_own _ rfl _ _ 117 rfl B 54 i0 (.int .u16 0) 1 2 Tryz.underlying117 hi hz0 hz1 hz2 rfl (by decide) _ _ _ rfl (World.ownsRow.alloc (w := wr) H _) ⟨wr.heap.size, 0, none⟩ 1 1 [_] rfl rfl (alloc_cells _ [_] _) (by simp [Value.oneCell']) (by simp [maxLen]; omega) (by simp; omega) (by simp; omega) ?_)
      intro v2 w2 hown hg _
      rw [digs_V] at hown
      have hb2 : Below B w w2 := ((hb.alloc hBw _)).grown hg (by simp; omega) (fun j hj => (World.ownsRow.lt H j hj).1)
      have hlen : (l ++ (escU u).take (2 + 0)) ++ [hxU ((u / 4096) % 16)] = l ++ (escU u).take (2 + (0 + 1)) := by simp [escU]
      have o2 : Own16 B (l ++ (escU u).take (2 + (0 + 1))) v2 w2 := by
        rw [← hlen]
        simpa [Own16, Nat.add_assoc] using hown
      clear hown hg H hb
      go_wp2
      go_roundw
      case rel => exact ⟨0 + 1, by omega, by go_num, o2, hb2⟩
      case measure => simp [intOf]
    · go_wp2_with (at_builtin; refine wpList_append_own _ rfl _ _ 117 rfl B 54 i0 (.int .u16 0) 1 2 Tryz.underlying117 hi hz0 hz1 hz2 rfl (by decide) _ _ _ rfl (World.ownsRow.alloc (w := wr) H _) ⟨wr.heap.size, 0, none⟩ 1 1 [_] rfl rfl (alloc_cells _ [_] _) (by simp [Value.oneCell']) (by simp [maxLen]; omega) (by simp; omega) (by simp; omega) ?_)
      intro v2 w2 hown hg _
      rw [digs_V] at hown
      have hb2 : Below B w w2 := ((hb.alloc hBw _)).grown hg (by simp; omega) (fun j hj => (World.ownsRow.lt H j hj).1)
      have hlen : (l ++ (escU u).take (2 + 1)) ++ [hxU ((u / 256) % 16)] = l ++ (escU u).take (2 + (1 + 1)) := by simp [escU]
      have o2 : Own16 B (l ++ (escU u).take (2 + (1 + 1))) v2 w2 := by
        rw [← hlen]
        simpa [Own16, Nat.add_assoc] using hown
      clear hown hg H hb
      go_wp2
      go_roundw
      case rel => exact ⟨1 + 1, by omega, by go_num, o2, hb2⟩
      case measure => simp [intOf]
    · go_wp2_with (at_builtin; refine wpList_append_own _ rfl _ _ 117 rfl B 54 i0 (.int .u16 0) 1 2 Tryz.underlying117 hi hz0 hz1 hz2 rfl (by decide) _ _ _ rfl (World.ownsRow.alloc (w := wr) H _) ⟨wr.heap.size, 0, none⟩ 1 1 [_] rfl rfl (alloc_cells _ [_] _) (by simp [Value.oneCell']) (by simp [maxLen]; omega) (by simp; omega) (by simp; omega) ?_)
      intro v2 w2 hown hg _
      rw [digs_V] at hown
      have hb2 : Below B w w2 := ((hb.alloc hBw _)).grown hg (by simp; omega) (fun j hj => (World.ownsRow.lt H j hj).1)
      have hlen : (l ++ (escU u).take (2 + 2)) ++ [hxU ((u / 16) % 16)] = l ++ (escU u).take (2 + (2 + 1)) := by simp [escU]
      have o2 : Own16 B (l ++ (escU u).take (2 + (2 + 1))) v2 w2 := by
        rw [← hlen]
        simpa [Own16, Nat.add_assoc] using hown
      clear hown hg H hb
      go_wp2
      go_roundw
      case rel => exact ⟨2 + 1, by omega, by go_num, o2, hb2⟩
      case measure => simp [intOf]
    · go_wp2_with (at_builtin; refine wpList_append_own _ rfl _ _ 117 rfl B 54 i0 (.int .u16 0) 1 2 Tryz.underlying117 hi hz0 hz1 hz2 rfl (by decide) _ _ _ rfl (World.ownsRow.alloc (w := wr) H _) ⟨wr.heap.size, 0, none⟩ 1 1 [_] rfl rfl (alloc_cells _ [_] _) (by simp [Value.oneCell']) (by simp [maxLen]; omega) (by simp; omega) (by simp; omega) ?_)
      intro v2 w2 hown hg _
      rw [digs_V] at hown
      have hb2 : Below B w w2 := ((hb.alloc hBw _)).grown hg (by simp; omega) (fun j hj => (World.ownsRow.lt H j hj).1)
      have hlen : (l ++ (escU u).take (2 + 3)) ++ [hxU ((u) % 16)] = l ++ (escU u).take (2 + (3 + 1)) := by simp [escU]
      have o2 : Own16 B (l ++ (escU u).take (2 + (3 + 1))) v2 w2 := by
        rw [← hlen]
        simpa [Own16, Nat.add_assoc] using hown
      clear hown hg H hb
      go_wp2
      go_roundw
      case rel => exact ⟨3 + 1, by omega, by go_num, o2, hb2⟩
      case measure => simp [intOf]
    · have e : l ++ (escU u).take (2 + 4) = l ++ escU u := by simp [escU]
      rw [e] at H
      go_wp2
      go_ret
      exact ⟨_, rfl, H, hb⟩

end Go.Proofs.YtfpmhahjemdodaaGreatDoor
