/-
  Contracts of whole, of Repeat of the program and of the reference, and of the law UstrRepeats.
-/
import Derived.Test.YthnkidncjkhndaaDoorConv
import Derived.Lib.Repeat
import Derived.Lib.FrozenHead
import Derived.Test.YthnkidncjkhndaaDoorUnitLaw
namespace Go.Proofs.YthnkidncjkhndaaDoor
open Go.RowKit
theorem and_even64 (x : Nat) (hx : x < 18446744073709551616) : x &&& 18446744073709551614 = x / 2 * 2 := by
  have h : x &&& 18446744073709551614 = (x >>> 1) <<< 1 := by
    apply Nat.eq_of_testBit_eq
    intro i
    rw [Nat.testBit_and, Nat.testBit_shiftLeft, Nat.testBit_shiftRight, show 18446744073709551614 = (2 ^ 63 - 1) <<< 1 from rfl, Nat.testBit_shiftLeft, Nat.testBit_two_pow_sub_one]
    by_cases h1 : 1 ≤ i
    · rw [show 1 + (i - 1) = i by omega]
      by_cases h2 : i - 1 < 63
      · simp [h1, h2]
      · have : x.testBit i = false := Nat.testBit_lt_two_pow (Nat.lt_of_lt_of_le hx (by
          have : 2 ^ 64 ≤ 2 ^ i := Nat.pow_le_pow_right (by omega) (by omega)
          simpa using this))
        simp [this]
    · simp [h1]
  rw [h, Nat.shiftLeft_eq, Nat.shiftRight_eq_div_pow]
theorem andNot_one (n : Nat) (hn : n ≤ 9223372036854775807) : bits BinOp.andNot IntKind.i64 (n : Int) 1 = 2 * ((n / 2 : Nat) : Int) := by
  show IntKind.i64.wrap ((BitVec.ofInt 64 (n : Int) &&& ~~~BitVec.ofInt 64 1).toNat : Int) = _
  have h1 : (BitVec.ofInt 64 1).toNat = 1 := by decide
  have h2 : (BitVec.ofInt 64 (n : Int)).toNat = n := by
    rw [BitVec.ofInt_natCast, BitVec.toNat_ofNat]; exact Nat.mod_eq_of_lt (by omega)
  rw [BitVec.toNat_and, BitVec.toNat_not, h2, h1, show 2 ^ 64 - 1 - 1 = 18446744073709551614 by decide, and_even64 n (by omega)]
  rw [IntKind.wrap_i64]
  omega
/-- A text without half a unit at its end. -/
def wh (s : ByteArray) : ByteArray := s.extract 0 (2 * ln s)
theorem wh_data (s : ByteArray) : (wh s).data.toList = bL (us s) := by
  unfold wh us
  rw [Lib.extract_data, bL_uL, ← Lib.size_eq]
  simp [ln]
theorem wh_size (s : ByteArray) : (wh s).size = 2 * ln s := by
  rw [Lib.size_eq, wh_data, bL_length, us_length]
theorem wh_eq (s : ByteArray) : wh s = ⟨(bL (us s)).toArray⟩ := by
  apply ByteArray.ext
  have := wh_data s
  simp [← this]
theorem whole_any (s : ByteArray) (w : World) (hs : s.size ≤ maxLen) : Calls Tryd.prog 80 #[.string s] w fun e w' => e = .returned (.string (wh s)) ∧ w = w' := by
  have hl := ln_le s
  have hb : bits BinOp.andNot IntKind.i64 (s.size : Int) 1 = 2 * ((ln s : Nat) : Int) := andNot_one s.size (by unfold maxLen at hs; omega)
  have k0 : 0 ≤ 2 * ((ln s : Nat) : Int) := by omega
  have k1 : 2 * ((ln s : Nat) : Int) ≤ (s.size : Int) := by omega
  have e1 : (2 * ((ln s : Nat) : Int)).toNat = 2 * ln s := by omega
  clear hs hl
  go_enter Tryd.func80, Tryd.ntmps80
  go_wp2
  go_ret
  exact ⟨rfl, rfl⟩
/-- Again and again: what is told, and whether. -/
def repB (s : ByteArray) (n most : Int) : Bool := decide (n < 1) || (ln s == 0) || decide (n ≤ max most 0 / (ln s : Nat))
def repL (s : ByteArray) (n most : Int) : List UInt8 := if n < 1 ∨ ln s = 0 then [] else if n ≤ max most 0 / (ln s : Nat) then Lib.repeatL (bL (us s)) n.toNat else []
theorem rep_cases (s : ByteArray) (n most : Int) :
    ((n < 1 ∨ (1 ≤ n ∧ ln s = 0)) ∧ repB s n most = true ∧ repL s n most = []) ∨
    (1 ≤ n ∧ 0 < ln s ∧ most < 0 ∧ repB s n most = false ∧ repL s n most = []) ∨
    (1 ≤ n ∧ 0 < ln s ∧ 0 ≤ most ∧ most / (ln s : Nat) < n ∧ repB s n most = false ∧ repL s n most = []) ∨
    (1 ≤ n ∧ 0 < ln s ∧ 0 ≤ most ∧ n ≤ most / (ln s : Nat) ∧ repB s n most = true ∧ repL s n most = Lib.repeatL (bL (us s)) n.toNat) := by
  by_cases h1 : n < 1
  · left; exact ⟨.inl h1, by simp [repB, h1], by simp [repL, h1]⟩
  · by_cases h2 : ln s = 0
    · left; exact ⟨.inr ⟨by omega, h2⟩, by simp [repB, h2], by simp [repL, h2]⟩
    · by_cases h3 : most < 0
      · right; left
        have e : max most 0 = 0 := by omega
        exact ⟨by omega, by omega, h3, by simp [repB, h1, h2, e]; omega, by simp [repL, h1, h2, e]; omega⟩
      · have e : max most 0 = most := by omega
        by_cases h4 : n ≤ most / (ln s : Nat)
        · right; right; right
          exact ⟨by omega, by omega, by omega, h4, by simp [repB, h1, e, h4], by simp [repL, h1, h2, e, h4]⟩
        · right; right; left
          exact ⟨by omega, by omega, by omega, by omega, by simp [repB, h1, h2, e]; omega, by simp [repL, h1, h2, e, h4]⟩
theorem rep_bound (L : Nat) (n most : Int) (h1 : 1 ≤ n) (hL : 0 < L) (h0 : 0 ≤ most) (hm : most ≤ 1048576) (h : n ≤ most / (L : Nat)) : 2 * L * n.toNat ≤ 2097152 ∧ n ≤ 1048576 := by
  obtain ⟨c, rfl⟩ := Int.eq_ofNat_of_zero_le (show 0 ≤ n by omega)
  obtain ⟨m, rfl⟩ := Int.eq_ofNat_of_zero_le h0
  have h2 : c ≤ m / L := by
    have : ((m : Int) / (L : Nat)) = ((m / L : Nat) : Int) := rfl
    rw [this] at h
    omega
  have h3 : c * L ≤ m := (Nat.le_div_iff_mul_le hL).1 h2
  have h4 : c ≤ m := Nat.le_trans h2 (Nat.div_le_self m L)
  refine ⟨?_, by omega⟩
  rw [Int.toNat_natCast, Nat.mul_assoc, Nat.mul_comm L c]
  omega
set_option maxRecDepth 100000 in
set_option maxHeartbeats 1000000 in
theorem repeat_any (s : ByteArray) (n most : Int) (w : World) (hs : s.size ≤ maxLen) (hm : most ≤ 1048576) (hlo : -9223372036854775808 ≤ most) :
    Calls Tryd.prog 52 #[.string s, .int .i64 n, .int .i64 most] w fun e w' => e = .returned (.tuple #[.string ⟨(repL s n most).toArray⟩, .bool (repB s n most)]) ∧ Below w.heap.size w w' := by
  have hl := ln_le s
  have c1 := fun W => len_any s W hs
  have c2 := fun W => whole_any s W hs
  have HLO := Lib.hid hlo
  clear hlo
  have hmin : min most 1073741823 = most := by omega
  have hmm : ((ln s : Nat) : Int) ≤ 4611686018427387903 := by unfold maxLen at hs; omega
  rcases rep_cases s n most with ⟨h, hB, hR⟩ | ⟨h1, h2, h3, hB, hR⟩ | ⟨h1, h2, h3, h4, hB, hR⟩ | ⟨h1, h2, h3, h4, hB, hR⟩
  · rw [hB, hR]
    clear hB hR hs hl
    rcases h with h | ⟨h1, h2⟩
    · go_enter Tryd.func52, Tryd.ntmps52
      go_wp2_with (go_at_call 28; refine (c1 _).mono ?_; rintro e w' ⟨rfl, rfl⟩)
      go_ret2
      exact ⟨rfl, Below.refl _ _⟩
    · have ht : (((ln s : Nat) : Int) == 0) = true := by simp; omega
      clear h2
      go_enter Tryd.func52, Tryd.ntmps52
      go_wp2_with (go_at_call 28; refine (c1 _).mono ?_; rintro e w' ⟨rfl, rfl⟩)
      go_ret2
      exact ⟨rfl, Below.refl _ _⟩
  · have ht : (((ln s : Nat) : Int) == 0) = false := by simp; omega
    have hd : decide (wrap64 (most.tdiv (ln s : Nat)) < n) = true := by
      have hlo := HLO.out
      have a1 := Int.tdiv_nonneg (a := -most) (b := (ln s : Nat)) (by omega) (by omega)
      have a2 := Int.tdiv_le_self (a := -most) (ln s : Nat) (by omega)
      rw [Int.neg_tdiv] at a1 a2
      simp
      unfold wrap64
      omega
    have hL : 1 ≤ ((ln s : Nat) : Int) := by omega
    rw [hB, hR]
    clear hB hR hs hl
    go_enter Tryd.func52, Tryd.ntmps52
    go_wp2_with (go_at_call 28; refine (c1 _).mono ?_; rintro e w' ⟨rfl, rfl⟩)
    go_ret2
    exact ⟨rfl, Below.refl _ _⟩
  · have ht : (((ln s : Nat) : Int) == 0) = false := by simp; omega
    have hL : 1 ≤ ((ln s : Nat) : Int) := by omega
    rw [hB, hR]
    clear hB hR hs hl
    go_enter Tryd.func52, Tryd.ntmps52
    go_wp2_with (go_at_call 28; refine (c1 _).mono ?_; rintro e w' ⟨rfl, rfl⟩)
    go_ret2
    exact ⟨rfl, Below.refl _ _⟩
  · have ht : (((ln s : Nat) : Int) == 0) = false := by simp; omega
    have hL : 1 ≤ ((ln s : Nat) : Int) := by omega
    obtain ⟨hb1, hb2⟩ := rep_bound (ln s) n most h1 h2 h3 hm h4
    obtain ⟨c, rfl⟩ := Int.eq_ofNat_of_zero_le (show 0 ≤ n by omega)
    have h4' : ¬ (most / ((ln s : Nat) : Int) < (c : Int)) := by omega
    have hr := fun W => Tryd.strings_Repeat (wh s) c W (by omega) (by rw [wh_size]; simpa using Nat.le_trans hb1 (by omega))
    rw [wh_data] at hr
    rw [hB, hR]
    clear hB hR hs hl hb1
    go_enter Tryd.func52, Tryd.ntmps52
    go_wp2_with (first | (go_at_call 28; refine (c1 _).mono ?_; rintro e w' ⟨rfl, rfl⟩) | (go_at_call 80; refine (c2 _).mono ?_; rintro e w' ⟨rfl, rfl⟩) | (go_at_call 84; refine (hr _).mono ?_; rintro e w2 ⟨rfl, hb⟩))
    go_ret2
    exact ⟨rfl, hb⟩
theorem repeatL_snoc (l : List UInt8) (c : Nat) : Lib.repeatL l (c + 1) = Lib.repeatL l c ++ l := by
  rw [Lib.repeatL_add, Lib.repeatL_one]
set_option maxRecDepth 100000 in
set_option maxHeartbeats 1000000 in
theorem rrepeat_any (s : ByteArray) (n most : Int) (w : World) (hs : s.size ≤ maxLen) (hm : most ≤ 1048576) :
    Calls Tryd.prog 53 #[.string s, .int .i64 n, .int .i64 most] w fun e w' => e = .returned (.tuple #[.string ⟨(repL s n most).toArray⟩, .bool (repB s n most)]) ∧ Below w.heap.size w w' := by
  obtain ⟨i0, hi, hz0, hz1, hz2⟩ := info_parts info5
  have hl := ln_le s
  have c1 := fun W => rlen_any s W hs
  have hsz : (s.size : Int) ≤ 9223372036854775807 := by unfold maxLen at hs; omega
  have hmm : ((ln s : Nat) : Int) ≤ 4611686018427387903 := by unfold maxLen at hs; omega
  rcases rep_cases s n most with ⟨h, hB, hR⟩ | ⟨h1, h2, h3, hB, hR⟩ | ⟨h1, h2, h3, h4, hB, hR⟩ | ⟨h1, h2, h3, h4, hB, hR⟩
  · rw [hB, hR]
    clear hB hR hs hl
    rcases h with h | ⟨h1, h2⟩
    · by_cases h0 : most < 0
      all_goals
        go_enter Tryd.func53, Tryd.ntmps53
        go_wp2_with (go_at_call 29; refine (c1 _).mono ?_; rintro e w' ⟨rfl, rfl⟩)
        go_ret2
        exact ⟨rfl, Below.refl _ _⟩
    · have ht : (((ln s : Nat) : Int) == 0) = true := by simp; omega
      clear h2
      by_cases h0 : most < 0
      all_goals
        go_enter Tryd.func53, Tryd.ntmps53
        go_wp2_with (go_at_call 29; refine (c1 _).mono ?_; rintro e w' ⟨rfl, rfl⟩)
        go_ret2
        exact ⟨rfl, Below.refl _ _⟩
  · have ht : (((ln s : Nat) : Int) == 0) = false := by simp; omega
    have hL : 1 ≤ ((ln s : Nat) : Int) := by omega
    have hd : (0 : Int) / ((ln s : Nat) : Int) = 0 := Int.zero_ediv _
    rw [hB, hR]
    clear hB hR hs hl
    go_enter Tryd.func53, Tryd.ntmps53
    go_wp2_with (go_at_call 29; refine (c1 _).mono ?_; rintro e w' ⟨rfl, rfl⟩)
    go_ret2
    exact ⟨rfl, Below.refl _ _⟩
  · have ht : (((ln s : Nat) : Int) == 0) = false := by simp; omega
    have hL : 1 ≤ ((ln s : Nat) : Int) := by omega
    rw [hB, hR]
    clear hB hR hs hl
    go_enter Tryd.func53, Tryd.ntmps53
    go_wp2_with (go_at_call 29; refine (c1 _).mono ?_; rintro e w' ⟨rfl, rfl⟩)
    go_ret2
    exact ⟨rfl, Below.refl _ _⟩
  · have ht : (((ln s : Nat) : Int) == 0) = false := by simp; omega
    have hL : 1 ≤ ((ln s : Nat) : Int) := by omega
    obtain ⟨hb1, hb2⟩ := rep_bound (ln s) n most h1 h2 h3 hm h4
    obtain ⟨c, rfl⟩ := Int.eq_ofNat_of_zero_le (show 0 ≤ n by omega)
    have h4' : ¬ (most / ((ln s : Nat) : Int) < (c : Int)) := by omega
    have k0 : 0 ≤ 2 * ((ln s : Nat) : Int) := by omega
    have k1 : 2 * ((ln s : Nat) : Int) ≤ (s.size : Int) := by omega
    have e1 : (2 * ((ln s : Nat) : Int)).toNat = 2 * ln s := by omega
    have HB := Lib.hid (show 2 * ln s * c ≤ 2097152 by simpa using hb1)
    rw [hB, hR]
    clear hB hR hs hl hb1
    go_enter Tryd.func53, Tryd.ntmps53
    go_wp2_with (go_at_call 29; refine (c1 _).mono ?_; rintro e w' ⟨rfl, rfl⟩)
    go_loopw [8, 9] (fun v i wr => ∃ k : Nat, i = .int .i64 k ∧ k ≤ c ∧ Own w.heap.size (Lib.repeatL (bL (us s)) k) v wr ∧ Below w.heap.size w wr) (fun _ i _ => c - (intOf i).toNat)
    case atStart => exact ⟨0, rfl, Nat.zero_le _, Own.nil _ _, Below.refl _ _⟩
    case round =>
      obtain ⟨k, rfl, hk, hI, hbw⟩ := hrel
      by_cases hlt : k < c
      · have hlt' : (k : Int) < (c : Int) := by omega
        have HL := Lib.hid (show (Lib.repeatL (bL (us s)) k).length + (wh s).size ≤ 2097152 by
          rw [Lib.repeatL_length, bL_length, us_length, wh_size]
          have h1 : (k + 1) * (2 * ln s) ≤ c * (2 * ln s) := Nat.mul_le_mul_right _ hlt
          have h2 := HB.out
          rw [Nat.mul_comm c] at h1
          rw [Nat.add_mul] at h1
          omega)
        have e2 : s.extract 0 (2 * ln s) = wh s := rfl
        go_wp2_with fail
        refine (c1 _).mono ?_
        rintro e w' ⟨rfl, rfl⟩
        go_wp2_with (at_builtin; refine Lib.wpList_append_own_string _ rfl _ _ 52 9 rfl w.heap.size 5 i0 Tryd.underlying52 Tryd.underlying9 hi hz0 hz1 hz2 _ _ _ rfl hI (wh s) rfl ?c3 ?c4 ?c5 ?_)
        case c3 => have := HL.out; unfold maxLen; omega
        case c4 => have := HL.out; omega
        case c5 => exact hbw.size
        intro v' w1 hown hg _
        go_wp2
        go_roundw
        case rel =>
          refine ⟨k + 1, by go_num, by omega, ?_, hbw.grown hg hbw.size (fun j hj => (World.ownsRow.lt hI j hj).1)⟩
          rw [Own, repeatL_snoc, List.length_append, Lib.byteCells_append]
          have e3 : Lib.strCells (wh s) = Lib.byteCells (bL (us s)) := by rw [Lib.strCells_eq, wh_data]
          have e4 : (bL (us s)).length = (wh s).size := by rw [wh_size, bL_length, us_length]
          rw [← e3, e4]
          exact hown
        case measure => simp [intOf]; omega
      · have HZ := Lib.hid (show k = c by omega)
        have hcv := own_string hI
        go_wp2
        go_ret2
        rw [HZ.out]
        exact ⟨rfl, hbw⟩
set_option maxRecDepth 100000 in
theorem repeats_any (s : ByteArray) (n most : Int) (w : World) (hs : s.size ≤ maxLen) (hlo : -9223372036854775808 ≤ most) (hT : Lib.Utf8Tabs 0 1 w) :
    Calls Tryd.prog 10 #[.string s, .int .i64 n, .int .i64 most] w fun e w' => e = .returned (.bool true) ∧ Below w.heap.size w w' := by
  have ha := fun W (hb : Below w.heap.size w W) => awake_any W (tabs_below hT (tabs_two hT) hb)
  by_cases hm : most ≤ 1048576
  · have c1 := fun W => repeat_any s n most W hs hm hlo
    have c2 := fun W => rrepeat_any s n most W hs hm
    clear hT hs hlo
    go_enter Tryd.func10, Tryd.ntmps10
    go_wp2_with fail
    refine (c1 _).mono ?_
    rintro e W1 ⟨rfl, b1⟩
    go_wp2_with fail
    refine (c2 _).mono ?_
    rintro e W2 ⟨rfl, b2⟩
    have B2 := below_le b1 b2
    go_wp2_with (go_at_call 16; refine (ha _ B2).mono ?_; rintro e w' ⟨rfl, hb⟩)
    go_ret
    exact ⟨rfl, below_le B2 hb⟩
  · have ha0 := ha w (Below.refl _ _)
    clear hT hs hlo ha
    go_enter Tryd.func10, Tryd.ntmps10
    go_wp2_with (go_at_call 16; refine ha0.mono ?_; rintro e w' ⟨rfl, hb⟩)
    go_ret
    exact ⟨rfl, hb⟩
end Go.Proofs.YthnkidncjkhndaaDoor
