/-
  Plain lemmas on texts: the units of a list of bytes and the bytes of a list of units. No program in it. Contracts of the small functions on one unit of a text: its length, a unit at a place, a unit written. Contracts of the reference's small functions on owned bytes: a unit put behind bytes. Contracts of the classes of units: of the program and of the reference. Owned bytes turned into a string; Wide and Make of the program and of the reference. Contracts of the program's and the reference's Wide: a text of bytes, each a unit (at most 2^45 bytes). Contracts of Make, Units and Unit of the program and of the reference. Contracts of Unit, of the law's comparison of units, and of the law UstrUnits (texts and lists of at most 2^45 bytes and units). Contracts of the program's and the reference's Slice: any part of any text; and of the law UstrParts. Contracts of Trim of the program and of the reference, and of the law UstrLetters (a text of at most 2^45 bytes).
-/
import GoSem.Core.Utf8
import Derived.Lib.Strings
import Derived.WalkKit
import Derived.WalkSpells
import Derived.WalkLawsBesides
import Derived.Deep.QuietTactic
import Derived.BigQuiet
import Derived.Laws.BitsAllLaws
import Derived.Lib.Hide
import Derived.Laws.BytesString
import Derived.Laws.Cells
import Derived.Deep.OwnRows
import Derived.Laws.CopyOwn
import Derived.Deep.AppendLies
import Derived.Lib.BitFns
import Derived.Lib.LaidTab
import Derived.Test.YtlkgijinckhkkaaProg
import Derived.Test.YtlkgijinckhkkaaShelf
import Derived.Test.YtlkgijinckhkkaaBA
namespace Go.Proofs.Ytlkgijinckhkkaa

/-- The units of bytes: two bytes each, the higher one first; a last half counts not. -/
def uL : List UInt8 → List Nat
  | a :: b :: r => (a.toNat * 256 + b.toNat) :: uL r
  | _ => []

/-- The bytes of units. -/
def bL (l : List Nat) : List UInt8 := l.flatMap fun u => [UInt8.ofNat (u / 256), UInt8.ofNat u]

theorem uL_length : ∀ l : List UInt8, (uL l).length = l.length / 2
  | [] => rfl
  | [_] => by simp [uL]
  | a :: b :: r => by
    have := uL_length r
    simp only [uL, List.length_cons, this]
    omega

theorem bL_cons (u : Nat) (l : List Nat) : bL (u :: l) = UInt8.ofNat (u / 256) :: UInt8.ofNat u :: bL l := rfl
theorem bL_length : ∀ l : List Nat, (bL l).length = 2 * l.length
  | [] => rfl
  | u :: r => by rw [bL_cons]; simp [bL_length r]; omega

theorem bL_uL : ∀ (l : List UInt8), bL (uL l) = l.take (2 * (l.length / 2))
  | [] => rfl
  | [_] => by simp [uL, bL]
  | a :: b :: r => by
    rw [uL, bL_cons, bL_uL r]
    have e : 2 * ((a :: b :: r).length / 2) = 2 * (r.length / 2) + 1 + 1 := by simp; omega
    rw [e, List.take_succ_cons, List.take_succ_cons]
    have ha := a.toNat_lt; have hb := b.toNat_lt
    have e1 : (a.toNat * 256 + b.toNat) / 256 = a.toNat := by omega
    rw [e1]
    congr 1
    · simp
    · congr 1
      apply UInt8.toNat_inj.1
      simp

/-! ### of a Go string -/
/-- A text's units. -/
def us (s : ByteArray) : List Nat := uL s.data.toList
/-- How many. -/
def ln (s : ByteArray) : Nat := s.size / 2
/-- The unit at a place; 0 where there is none. -/
def un (s : ByteArray) (i : Nat) : Nat := (us s).getD i 0

theorem ln_le (s : ByteArray) : 2 * ln s ≤ s.size := by unfold ln; omega
theorem us_length (s : ByteArray) : (us s).length = ln s := by
  unfold us ln; rw [uL_length, Go.Lib.size_eq]
theorem us_getElem (s : ByteArray) (i : Nat) (h : i < (us s).length) : (us s)[i] = un s i := by
  unfold un; rw [List.getD_eq_getElem?_getD, List.getElem?_eq_getElem h]; rfl
end Go.Proofs.Ytlkgijinckhkkaa
namespace Go.Proofs.Ytlkgijinckhkkaa
open Go.RowKit
theorem ln_int (s : ByteArray) : (s.size : Int) / 2 = (ln s : Int) := by unfold ln; omega
theorem len_any (s : ByteArray) (w : World) (hs : s.size ≤ maxLen) : Calls Try.prog 54 #[.string s] w fun e w' => e = .returned (.int .i64 (ln s)) ∧ w = w' := by
  unfold maxLen at hs
  have hm : (s.size : Int) ≤ 9223372036854775807 := by omega
  go_enter Try.func54, Try.ntmps54
  go_wp2
  go_ret
  exact ⟨by rw [← ln_int]; rfl, rfl⟩
end Go.Proofs.Ytlkgijinckhkkaa
namespace Go.Proofs.Ytlkgijinckhkkaa
open Go.RowKit
/-- The slice of bytes v is the call's own (from block B on) and holds the bytes l. -/
abbrev Own (B : Nat) (l : List UInt8) (v : Value) (w : World) : Prop := w.ownsRow B 5 1 v l.length (Lib.byteCells l)
theorem Own.nil (B : Nat) (w : World) : Own B [] (.slice none 0 0) w := World.ownsRow_nil _ _ _ _
end Go.Proofs.Ytlkgijinckhkkaa
namespace Go.Proofs.Ytlkgijinckhkkaa
open Go.RowKit
end Go.Proofs.Ytlkgijinckhkkaa
namespace Go.Proofs.Ytlkgijinckhkkaa
open Go.RowKit
end Go.Proofs.Ytlkgijinckhkkaa
namespace Go.Proofs.Ytlkgijinckhkkaa
open Go.RowKit
end Go.Proofs.Ytlkgijinckhkkaa
namespace Go.Proofs.Ytlkgijinckhkkaa
open Go.RowKit
end Go.Proofs.Ytlkgijinckhkkaa
namespace Go.Proofs.Ytlkgijinckhkkaa
open Go.RowKit
end Go.Proofs.Ytlkgijinckhkkaa
namespace Go.Proofs.Ytlkgijinckhkkaa
open Go.RowKit
/-- The units from f on, up to t. -/
def slS (s : ByteArray) (f t : Int) : ByteArray := if max f 0 < min t (ln s) then s.extract (2 * (max f 0).toNat) (2 * (min t (ln s)).toNat) else { data := #[] }
theorem slS_mid (s : ByteArray) (f t : Int) (h0 : 0 ≤ f) (h1 : f < t) (h2 : t ≤ ln s) : slS s f t = s.extract (2 * f.toNat) (2 * t.toNat) := by
  unfold slS
  rw [Int.max_eq_left h0, Int.min_eq_left h2, if_pos h1]
set_option maxHeartbeats 1000000 in
theorem slice_any (s : ByteArray) (f t : Int) (w : World) (hs : s.size ≤ maxLen) :
    Calls Try.prog 53 #[.string s, .int .i64 f, .int .i64 t] w fun e w' => e = .returned (.string (slS s f t)) ∧ w = w' := by
  have hl := ln_le s
  have hm : (s.size : Int) ≤ 9223372036854775807 := by unfold maxLen at hs; omega
  have c1 := fun W => len_any s W hs
  have hsl : slS s f t = if max f 0 < min t (ln s) then s.extract (2 * (max f 0).toNat) (2 * (min t (ln s)).toNat) else { data := #[] } := rfl
  have hm1 : 0 ≤ max f 0 := by omega
  have hn1 : min t (ln s) ≤ ln s := by omega
  have hl2 : 2 * ((ln s : Nat) : Int) ≤ (s.size : Int) := by omega
  obtain ⟨m, hm0⟩ : ∃ m : Int, max f 0 = m := ⟨_, rfl⟩
  obtain ⟨n, hn0⟩ : ∃ n : Int, min t (ln s) = n := ⟨_, rfl⟩
  rw [hm0, hn0] at hsl
  rw [hm0] at hm1
  rw [hn0] at hn1
  by_cases h : m < n
  · rw [if_pos h] at hsl
    have HS := Lib.hid hsl
    have k1 : 2 * m ≤ 2 * n := by omega
    have k2 : 2 * n ≤ (s.size : Int) := by omega
    have k3 : 0 ≤ 2 * m := by omega
    have k4 : 0 ≤ 2 * n := by omega
    have e1 : (2 * m).toNat = 2 * m.toNat := by omega
    have e2 : (2 * n).toNat = 2 * n.toNat := by omega
    clear hsl hl hs hl2 hn1
    go_enter Try.func53, Try.ntmps53
    go_wp2_with (go_at_call 54; refine (c1 _).mono ?_; rintro e w' ⟨rfl, rfl⟩)
    go_ret
    exact ⟨by rw [HS.out]; rfl, rfl⟩
  · rw [if_neg h] at hsl
    have HS := Lib.hid hsl
    clear hsl hl hs hl2 hn1
    go_enter Try.func53, Try.ntmps53
    go_wp2_with (go_at_call 54; refine (c1 _).mono ?_; rintro e w' ⟨rfl, rfl⟩)
    go_ret
    exact ⟨by rw [HS.out]; rfl, rfl⟩
end Go.Proofs.Ytlkgijinckhkkaa
namespace Go.Proofs.Ytlkgijinckhkkaa
open Go.RowKit
end Go.Proofs.Ytlkgijinckhkkaa
