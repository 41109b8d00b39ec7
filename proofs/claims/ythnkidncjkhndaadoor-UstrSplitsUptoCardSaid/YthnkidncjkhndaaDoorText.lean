/-
  Plain lemmas on texts: the units of a list of bytes and the bytes of a list of units. No program in it.
-/
import GoSem.Core.Utf8
import Derived.Lib.Strings
namespace Go.Proofs.YthnkidncjkhndaaDoor

/-- The units of bytes: two bytes each, the higher one first; a last half counts not. -/
def uL : List UInt8 → List Nat
  | a :: b :: r => (a.toNat * 256 + b.toNat) :: uL r
  | _ => []

/-- The bytes of units. -/
def bL (l : List Nat) : List UInt8 := l.flatMap fun u => [UInt8.ofNat (u / 256), UInt8.ofNat u]

theorem uL_length : ∀ l : List UInt8, (uL l).length = l.length / 2
  | [] => rfl
  | [_] => by simp [uL]
  | a :: b :: r => by
    have := uL_length r
    simp only [uL, List.length_cons, this]
    omega

theorem uL_get : ∀ (l : List UInt8) (i : Nat) (h : 2 * i + 1 < l.length), (uL l)[i]? = some (l[2 * i].toNat * 256 + l[2 * i + 1].toNat)
  | [], i, h => by simp at h
  | [_], i, h => by simp at h
  | a :: b :: r, 0, _ => by simp [uL]
  | a :: b :: r, i + 1, h => by
    have := uL_get r i (by simp at h; omega)
    simp only [uL, List.getElem?_cons_succ, this]
    rfl

theorem uL_lt : ∀ (l : List UInt8), ∀ u ∈ uL l, u < 65536
  | [], u, h => by simp [uL] at h
  | [_], u, h => by simp [uL] at h
  | a :: b :: r, u, h => by
    simp only [uL, List.mem_cons] at h
    rcases h with rfl | h
    · have := a.toNat_lt; have := b.toNat_lt; omega
    · exact uL_lt r u h

theorem bL_nil : bL [] = [] := rfl
theorem bL_cons (u : Nat) (l : List Nat) : bL (u :: l) = UInt8.ofNat (u / 256) :: UInt8.ofNat u :: bL l := rfl
theorem bL_append (l m : List Nat) : bL (l ++ m) = bL l ++ bL m := by simp [bL]
theorem bL_one (u : Nat) : bL [u] = [UInt8.ofNat (u / 256), UInt8.ofNat u] := rfl
theorem bL_length : ∀ l : List Nat, (bL l).length = 2 * l.length
  | [] => rfl
  | u :: r => by rw [bL_cons]; simp [bL_length r]; omega

theorem uL_bL : ∀ (l : List Nat), (∀ u ∈ l, u < 65536) → uL (bL l) = l
  | [], _ => rfl
  | u :: r, h => by
    have hu := h u (by simp)
    rw [bL_cons, uL, uL_bL r (fun v hv => h v (by simp [hv]))]
    simp
    omega

theorem bL_uL : ∀ (l : List UInt8), bL (uL l) = l.take (2 * (l.length / 2))
  | [] => rfl
  | [_] => by simp [uL, bL]
  | a :: b :: r => by
    rw [uL, bL_cons, bL_uL r]
    have e : 2 * ((a :: b :: r).length / 2) = 2 * (r.length / 2) + 1 + 1 := by simp; omega
    rw [e, List.take_succ_cons, List.take_succ_cons]
    have ha := a.toNat_lt; have hb := b.toNat_lt
    have e1 : (a.toNat * 256 + b.toNat) / 256 = a.toNat := by omega
    rw [e1]
    congr 1
    · simp
    · congr 1
      apply UInt8.toNat_inj.1
      simp

/-! ### of a Go string -/
/-- A text's units. -/
def us (s : ByteArray) : List Nat := uL s.data.toList
/-- How many. -/
def ln (s : ByteArray) : Nat := s.size / 2
/-- The unit at a place; 0 where there is none. -/
def un (s : ByteArray) (i : Nat) : Nat := (us s).getD i 0

theorem ln_le (s : ByteArray) : 2 * ln s ≤ s.size := by unfold ln; omega
theorem ln_up (s : ByteArray) : s.size ≤ 2 * ln s + 1 := by unfold ln; omega
theorem us_length (s : ByteArray) : (us s).length = ln s := by
  unfold us ln; rw [uL_length, Go.Lib.size_eq]
theorem us_lt (s : ByteArray) : ∀ u ∈ us s, u < 65536 := uL_lt _
theorem un_eq (s : ByteArray) (i : Nat) (h : 2 * i + 1 < s.size) : un s i = (s[2 * i]'(by omega)).toNat * 256 + (s[2 * i + 1]'h).toNat := by
  have := uL_get s.data.toList i (by rw [← Go.Lib.size_eq]; exact h)
  unfold un us
  rw [List.getD_eq_getElem?_getD, this]
  rfl
theorem un_lt (s : ByteArray) (i : Nat) : un s i < 65536 := by
  unfold un
  rw [List.getD_eq_getElem?_getD]
  cases h : (us s)[i]? with
  | none => simp
  | some u => exact us_lt s u (List.mem_of_getElem? h)
theorem us_getElem (s : ByteArray) (i : Nat) (h : i < (us s).length) : (us s)[i] = un s i := by
  unfold un; rw [List.getD_eq_getElem?_getD, List.getElem?_eq_getElem h]; rfl
theorem us_take_succ (s : ByteArray) (i : Nat) (h : i < ln s) : (us s).take (i + 1) = (us s).take i ++ [un s i] := by
  have h' : i < (us s).length := by rw [us_length]; exact h
  rw [List.take_succ_eq_append_getElem h', us_getElem]
theorem us_take_all (s : ByteArray) : (us s).take (ln s) = us s := List.take_of_length_le (by rw [us_length]; exact Nat.le_refl _)
end Go.Proofs.YthnkidncjkhndaaDoor
