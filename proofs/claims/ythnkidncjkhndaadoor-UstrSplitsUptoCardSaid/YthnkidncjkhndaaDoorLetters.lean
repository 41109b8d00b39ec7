/-
  Contracts of capital and small letters: of a unit, of a text, of the program and of the reference.
-/
import Derived.Test.YthnkidncjkhndaaDoorUnits
import Derived.Test.YthnkidncjkhndaaDoorSlice
import Derived.Test.YthnkidncjkhndaaDoorClass
namespace Go.Proofs.YthnkidncjkhndaaDoor
open Go.RowKit
def capU (u : Nat) : Nat := if (97 ≤ u ∧ u ≤ 122) ∨ (224 ≤ u ∧ u ≤ 254 ∧ u ≠ 247) then u - 32 else if u = 181 then 924 else if u = 255 then 376 else u
def smallU (u : Nat) : Nat := if (65 ≤ u ∧ u ≤ 90) ∨ (192 ≤ u ∧ u ≤ 222 ∧ u ≠ 215) then u + 32 else u
def upL (u : Nat) : List Nat := if u = 223 then [83, 83] else [capU u]
theorem capU_lt (u : Nat) (h : u < 65536) : capU u < 65536 := by unfold capU; split; omega; split; omega; split <;> omega
theorem smallU_lt (u : Nat) (h : u < 65536) : smallU u < 65536 := by unfold smallU; split <;> omega
theorem ret_u16 {a b : Int} (h : a = b) : Ending.returned (.int .u16 a) = .returned (.int .u16 b) := by rw [h]
set_option maxRecDepth 100000 in
theorem capital_any (u : Nat) (w : World) : Calls Tryd.prog 81 #[.int .u16 u] w fun e w' => e = .returned (.int .u16 (capU u)) ∧ w = w' := by
  go_enter Tryd.func81, Tryd.ntmps81
  go_wp2
  all_goals go_ret
  all_goals refine ⟨ret_u16 ?_, rfl⟩
  all_goals first | (simp at *; unfold capU; (repeat' split) <;> omega) | (unfold capU; (repeat' split) <;> omega)
set_option maxRecDepth 100000 in
theorem small_any (u : Nat) (w : World) : Calls Tryd.prog 82 #[.int .u16 u] w fun e w' => e = .returned (.int .u16 (smallU u)) ∧ w = w' := by
  go_enter Tryd.func82, Tryd.ntmps82
  go_wp2
  all_goals go_ret
  all_goals refine ⟨ret_u16 ?_, rfl⟩
  all_goals first | (simp at *; unfold smallU; (repeat' split) <;> omega) | (unfold smallU; (repeat' split) <;> omega)
def upS (s : ByteArray) : List Nat := (us s).flatMap upL
def loS (s : ByteArray) : List Nat := (us s).map smallU
theorem upL_le (u : Nat) : (upL u).length ≤ 2 := by unfold upL; split <;> simp
theorem upTake_len (s : ByteArray) (k : Nat) : (((us s).take k).flatMap upL).length ≤ 2 * k := by
  have h : ∀ l : List Nat, (l.flatMap upL).length ≤ 2 * l.length := by
    intro l
    induction l with
    | nil => simp
    | cons a r ih => have := upL_le a; simp only [List.flatMap_cons, List.length_append, List.length_cons]; omega
  have h1 := h ((us s).take k)
  have h2 := take_len (us s) k
  omega
theorem upTake_succ (s : ByteArray) (k : Nat) (h : k < ln s) : ((us s).take (k + 1)).flatMap upL = ((us s).take k).flatMap upL ++ upL (un s k) := by
  rw [us_take_succ s k h, List.flatMap_append]; simp
def loT (s : ByteArray) (k : Nat) : List Nat := ((us s).take k).map smallU
theorem loT_zero (s : ByteArray) : loT s 0 = [] := rfl
theorem loT_all (s : ByteArray) : loT s (ln s) = loS s := by unfold loT; rw [us_take_all]; rfl
theorem loT_len (s : ByteArray) (k : Nat) : (loT s k).length ≤ k := by unfold loT; rw [List.length_map]; exact take_len _ _
theorem loTake_succ (s : ByteArray) (k : Nat) (h : k < ln s) : loT s (k + 1) = loT s k ++ [smallU (un s k)] := by
  unfold loT
  rw [us_take_succ s k h, List.map_append]; rfl
theorem own_eq {B : Nat} {l l' : List UInt8} {v : Value} {w : World} (e : l = l') (h : Own B l v w) : Own B l' v w := e ▸ h
theorem put_int (B : Nat) (l : List UInt8) (v : Value) (u : Int) (h0 : 0 ≤ u) (h1 : u < 65536) (w : World) (h : Own B l v w) (hlen : l.length + 2 ≤ 140737488355328) (hBw : B ≤ w.heap.size) :
    Calls Tryd.prog 64 #[v, .int .u16 u] w fun e w' => ∃ v', e = .returned v' ∧ Own B (l ++ bL [u.toNat]) v' w' ∧ Below B w w' := by
  obtain ⟨k, rfl⟩ := Int.eq_ofNat_of_zero_le h0
  exact put_any B l v k (by omega) w h hlen hBw
set_option maxRecDepth 100000 in
set_option maxHeartbeats 2000000 in
theorem upper_any (s : ByteArray) (w : World) (hs : s.size ≤ 35184372088832) :
    Calls Tryd.prog 38 #[.string s] w fun e w' => e = .returned (.string ⟨(bL (upS s)).toArray⟩) ∧ Below w.heap.size w w' := by
  have hl := ln_le s
  have hm : ((ln s : Nat) : Int) ≤ 17592186044416 := by omega
  have H63 := Lib.hid (show s.size ≤ maxLen by unfold maxLen; omega)
  have HS := Lib.hid (show ln s ≤ 17592186044416 by omega)
  have hg : Calls Tryd.prog 59 #[.pointer (some ⟨w.heap.size, 0, none⟩), .int .i64 (s.size : Int)] (w.alloc (.cells #[.pointer none, .slice none 0 0] 54)) fun e w' => e = .returned (.tuple #[]) ∧ (Lib.BuilderAt 54 5 w.heap.size w.heap.size (.pointer (some ⟨w.heap.size, 0, none⟩)) [] w' ∧ Below w.heap.size (w.alloc (.cells #[.pointer none, .slice none 0 0] 54)) w') :=
    Tryd.Builder_Grow_fresh w.heap.size w.heap.size s.size _ (Nat.le_refl _) (alloc_new w _) (by simp) (by omega)
  have c1 := fun W => len_any s W H63.out
  clear hs hl
  go_enter Tryd.func38, Tryd.ntmps38
  go_wp2_with fail
  refine hg.mono ?_
  rintro e w1 ⟨rfl, hb1, bl1⟩
  have hbl : Below w.heap.size w w1 := ((Below.refl w.heap.size w).alloc (Nat.le_refl _) _).trans bl1
  clear hg
  go_wp2_with fail
  refine (c1 _).mono ?_
  rintro e w' ⟨rfl, rfl⟩
  go_wp2
  go_loopw [11] (fun i wr => ∃ k : Nat, i = .int .i64 k ∧ k ≤ ln s ∧ Bld w.heap.size (bL (((us s).take k).flatMap upL)) wr ∧ Below w.heap.size w wr) (fun i _ => ln s - (intOf i).toNat)
  case atStart => exact ⟨0, rfl, Nat.zero_le _, Lib.IsBuilderF.of (.inr hb1), hbl⟩
  case round =>
    obtain ⟨k, rfl, hk, hI, hbw⟩ := hrel
    have hsz := bld_lt hI
    by_cases hlt : k < ln s
    · have hlt' : (k : Int) < (ln s : Int) := by omega
      have c2 := fun W => at_any s k W hlt H63.out
      have HL := Lib.hid (show (bL (((us s).take k).flatMap upL)).length + 4 ≤ 140737488355328 by rw [bL_length]; have := upTake_len s k; have := HS.out; omega)
      have HG := Lib.hid (upTake_succ s k hlt)
      have HU := Lib.hid (un_lt s k)
      by_cases h223 : un s k = 223
      · have HE := Lib.hid (show upL (un s k) = [83, 83] by unfold upL; rw [if_pos h223])
        have ht : (((un s k : Nat) : Int) == 223) = true := by simp; omega
        clear h223
        go_wp2_with fail
        refine (c2 _).mono ?_
        rintro e w' ⟨rfl, n, rfl⟩
        go_wp2_with fail
        refine (writeUnit_any w.heap.size _ 83 (by omega) _ (bld_drewN hI n) (by have := HL.out; omega) (by have := hbw.size; simpa using this)).mono ?_
        rintro e w2 ⟨rfl, hI2, hb2⟩
        go_wp2_with fail
        refine (writeUnit_any w.heap.size _ 83 (by omega) _ hI2 (by have := HL.out; rw [List.length_append, bL_length [83]]; simp; omega) (Nat.le_trans hbw.size hb2.size)).mono ?_
        rintro e w3 ⟨rfl, hI3, hb3⟩
        go_wp2
        go_roundw
        case rel => exact ⟨k + 1, by go_num, by omega, by rw [HG.out, HE.out, bL_append, show bL [83, 83] = bL [83] ++ bL [83] from rfl, ← List.append_assoc]; exact hI3, ((below_drewN' hbw n).trans hb2).trans hb3⟩
        case measure => simp [intOf]; omega
      · have HE := Lib.hid (show upL (un s k) = [capU (un s k)] by unfold upL; rw [if_neg h223])
        have ht : (((un s k : Nat) : Int) == 223) = false := by simp; omega
        have c3 := fun W => capital_any (un s k) W
        clear h223
        go_wp2_with fail
        refine (c2 _).mono ?_
        rintro e w' ⟨rfl, n, rfl⟩
        go_wp2_with fail
        refine (c3 _).mono ?_
        rintro e w' ⟨rfl, rfl⟩
        go_wp2_with fail
        refine (writeUnit_any w.heap.size _ (capU (un s k)) (capU_lt _ HU.out) _ (bld_drewN hI n) (by have := HL.out; omega) (by have := hbw.size; simpa using this)).mono ?_
        rintro e w2 ⟨rfl, hI2, hb2⟩
        go_wp2
        go_roundw
        case rel => exact ⟨k + 1, by go_num, by omega, by rw [HG.out, HE.out, bL_append]; exact hI2, (below_drewN' hbw n).trans hb2⟩
        case measure => simp [intOf]; omega
    · have hS := Tryd.Builder_String_any_k w.heap.size w.heap.size _ wr hI (by omega)
      have hlt' : ¬ ((k : Int) < (ln s : Int)) := by omega
      have HZ := Lib.hid (show ((us s).take k).flatMap upL = upS s by rw [show k = ln s by omega, us_take_all]; rfl)
      go_wp2_with (go_at_call 62; refine hS.mono ?_; rintro e w2 ⟨rfl, _, hb2, _⟩)
      go_ret
      rw [HZ.out]
      exact ⟨rfl, hbw.trans hb2⟩
set_option maxRecDepth 100000 in
set_option maxHeartbeats 2000000 in
theorem lower_any (s : ByteArray) (w : World) (hs : s.size ≤ 140737488355328) :
    Calls Tryd.prog 40 #[.string s] w fun e w' => e = .returned (.string ⟨(bL (loS s)).toArray⟩) ∧ Below w.heap.size w w' := by
  have hl := ln_le s
  have hm : ((ln s : Nat) : Int) ≤ 70368744177664 := by omega
  have H63 := Lib.hid (show s.size ≤ maxLen by unfold maxLen; omega)
  have HS := Lib.hid (show 2 * ln s ≤ 140737488355328 by omega)
  have hg : Calls Tryd.prog 59 #[.pointer (some ⟨w.heap.size, 0, none⟩), .int .i64 (s.size : Int)] (w.alloc (.cells #[.pointer none, .slice none 0 0] 54)) fun e w' => e = .returned (.tuple #[]) ∧ (Lib.BuilderAt 54 5 w.heap.size w.heap.size (.pointer (some ⟨w.heap.size, 0, none⟩)) [] w' ∧ Below w.heap.size (w.alloc (.cells #[.pointer none, .slice none 0 0] 54)) w') :=
    Tryd.Builder_Grow_fresh w.heap.size w.heap.size s.size _ (Nat.le_refl _) (alloc_new w _) (by simp) (by omega)
  have c1 := fun W => len_any s W H63.out
  clear hs hl
  go_enter Tryd.func40, Tryd.ntmps40
  go_wp2_with fail
  refine hg.mono ?_
  rintro e w1 ⟨rfl, hb1, bl1⟩
  have hbl : Below w.heap.size w w1 := ((Below.refl w.heap.size w).alloc (Nat.le_refl _) _).trans bl1
  clear hg
  go_wp2_with fail
  refine (c1 _).mono ?_
  rintro e w' ⟨rfl, rfl⟩
  go_wp2
  go_loopw [10] (fun i wr => ∃ k : Nat, i = .int .i64 k ∧ k ≤ ln s ∧ Bld w.heap.size (bL (loT s k)) wr ∧ Below w.heap.size w wr) (fun i _ => ln s - (intOf i).toNat)
  case atStart => exact ⟨0, rfl, Nat.zero_le _, Lib.IsBuilderF.of (.inr hb1), hbl⟩
  case round =>
    obtain ⟨k, rfl, hk, hI, hbw⟩ := hrel
    have hsz := bld_lt hI
    by_cases hlt : k < ln s
    · have hlt' : (k : Int) < (ln s : Int) := by omega
      have c2 := fun W => at_any s k W hlt H63.out
      have HL := Lib.hid (show (bL (loT s k)).length + 2 ≤ 140737488355328 by rw [bL_length]; have := loT_len s k; have := HS.out; omega)
      have HG := Lib.hid (loTake_succ s k hlt)
      have HU := Lib.hid (un_lt s k)
      have c3 := fun W => small_any (un s k) W
      go_wp2_with fail
      refine (c2 _).mono ?_
      rintro e w' ⟨rfl, n, rfl⟩
      go_wp2_with fail
      refine (c3 _).mono ?_
      rintro e w' ⟨rfl, rfl⟩
      go_wp2_with fail
      refine (writeUnit_any w.heap.size _ (smallU (un s k)) (smallU_lt _ HU.out) _ (bld_drewN hI n) HL.out (by have := hbw.size; simpa using this)).mono ?_
      rintro e w2 ⟨rfl, hI2, hb2⟩
      go_wp2
      go_roundw
      case rel => exact ⟨k + 1, by go_num, by omega, by rw [HG.out, bL_append]; exact hI2, (below_drewN' hbw n).trans hb2⟩
      case measure => simp [intOf]; omega
    · have hS := Tryd.Builder_String_any_k w.heap.size w.heap.size _ wr hI (by omega)
      have hlt' : ¬ ((k : Int) < (ln s : Int)) := by omega
      have HZ := Lib.hid (show loT s k = loS s by rw [show k = ln s by omega, loT_all])
      go_wp2_with (go_at_call 62; refine hS.mono ?_; rintro e w2 ⟨rfl, _, hb2, _⟩)
      go_ret
      rw [HZ.out]
      exact ⟨rfl, hbw.trans hb2⟩
def upT (s : ByteArray) (k : Nat) : List Nat := ((us s).take k).flatMap upL
theorem upT_all (s : ByteArray) : upT s (ln s) = upS s := by unfold upT; rw [us_take_all]; rfl
theorem upT_succ (s : ByteArray) (k : Nat) (h : k < ln s) : upT s (k + 1) = upT s k ++ upL (un s k) := upTake_succ s k h
theorem upT_len (s : ByteArray) (k : Nat) : (upT s k).length ≤ 2 * k := upTake_len s k
set_option maxRecDepth 100000 in
set_option maxHeartbeats 2000000 in
theorem rlower_any (s : ByteArray) (w : World) (hs : s.size ≤ 140737488355328) :
    Calls Tryd.prog 41 #[.string s] w fun e w' => e = .returned (.string ⟨(bL (loS s)).toArray⟩) ∧ Below w.heap.size w w' := by
  have hl := ln_le s
  have hm : ((ln s : Nat) : Int) ≤ 70368744177664 := by omega
  have H63 := Lib.hid (show s.size ≤ maxLen by unfold maxLen; omega)
  have HS := Lib.hid (show 2 * ln s ≤ 140737488355328 by omega)
  have c1 := fun W => rlen_any s W H63.out
  clear hs hl
  go_enter Tryd.func41, Tryd.ntmps41
  go_wp2
  go_loopw [3, 4] (fun v i wr => ∃ k : Nat, i = .int .i64 k ∧ k ≤ ln s ∧ Own w.heap.size (bL (loT s k)) v wr ∧ Below w.heap.size w wr) (fun _ i _ => ln s - (intOf i).toNat)
  case atStart => exact ⟨0, rfl, Nat.zero_le _, Own.nil _ _, Below.refl _ _⟩
  case round =>
    obtain ⟨k, rfl, hk, hI, hbw⟩ := hrel
    by_cases hlt : k < ln s
    · have hlt' : (k : Int) < (ln s : Int) := by omega
      have c2 := fun W => rat_any s k W hlt H63.out
      have HL := Lib.hid (show (bL (loT s k)).length + 2 ≤ 140737488355328 by rw [bL_length]; have := loT_len s k; have := HS.out; omega)
      have HG := Lib.hid (loTake_succ s k hlt)
      have HU := Lib.hid (un_lt s k)
      go_wp2_with fail
      refine (c1 _).mono ?_
      rintro e w' ⟨rfl, rfl⟩
      go_wp2_with fail
      refine (c2 _).mono ?_
      rintro e w' ⟨rfl, n, rfl⟩
      have hI' := own_drewN hI n
      go_wp2_with (go_at_call 64; refine (put_int w.heap.size _ _ _ (by omega) (by have := HU.out; omega) _ (by assumption) HL.out (by have := hbw.size; simpa using this)).mono ?_; rintro e w2 ⟨v2, rfl, hI2, hb2⟩)
      all_goals
        go_roundw
        case rel =>
          refine ⟨k + 1, by go_num, by omega, own_eq ?_ hI2, (below_drewN' hbw n).trans hb2⟩
          rw [HG.out, bL_append]
          refine congrArg (fun y => bL (loT s k) ++ bL [y]) ?_
          first | (unfold smallU; split <;> omega) | (simp at *; unfold smallU; split <;> omega)
        case measure => simp [intOf]; omega
    · have hlt' : ¬ ((k : Int) < (ln s : Int)) := by omega
      have HZ := Lib.hid (show loT s k = loS s by rw [show k = ln s by omega, loT_all])
      have hcv := own_string hI
      go_wp2_with (go_at_call 29; refine (c1 _).mono ?_; rintro e w' ⟨rfl, rfl⟩)
      go_ret
      rw [HZ.out]
      exact ⟨rfl, hbw⟩
set_option maxRecDepth 100000 in
set_option maxHeartbeats 2000000 in
theorem rupper_any (s : ByteArray) (w : World) (hs : s.size ≤ 35184372088832) :
    Calls Tryd.prog 39 #[.string s] w fun e w' => e = .returned (.string ⟨(bL (upS s)).toArray⟩) ∧ Below w.heap.size w w' := by
  have hl := ln_le s
  have hm : ((ln s : Nat) : Int) ≤ 17592186044416 := by omega
  have H63 := Lib.hid (show s.size ≤ maxLen by unfold maxLen; omega)
  have HS := Lib.hid (show ln s ≤ 17592186044416 by omega)
  have c1 := fun W => rlen_any s W H63.out
  clear hs hl
  go_enter Tryd.func39, Tryd.ntmps39
  go_wp2
  go_loopw [3, 4] (fun v i wr => ∃ k : Nat, i = .int .i64 k ∧ k ≤ ln s ∧ Own w.heap.size (bL (upT s k)) v wr ∧ Below w.heap.size w wr) (fun _ i _ => ln s - (intOf i).toNat)
  case atStart => exact ⟨0, rfl, Nat.zero_le _, Own.nil _ _, Below.refl _ _⟩
  case round =>
    obtain ⟨k, rfl, hk, hI, hbw⟩ := hrel
    by_cases hlt : k < ln s
    · have hlt' : (k : Int) < (ln s : Int) := by omega
      have c2 := fun W => rat_any s k W hlt H63.out
      have HL := Lib.hid (show (bL (upT s k)).length + 4 ≤ 140737488355328 by rw [bL_length]; have := upT_len s k; have := HS.out; omega)
      have HG := Lib.hid (upT_succ s k hlt)
      have HU := Lib.hid (un_lt s k)
      go_wp2_with fail
      refine (c1 _).mono ?_
      rintro e w' ⟨rfl, rfl⟩
      go_wp2_with fail
      refine (c2 _).mono ?_
      rintro e w' ⟨rfl, n, rfl⟩
      have hI' := own_drewN hI n
      by_cases h223 : un s k = 223
      · have HE := Lib.hid (show upL (un s k) = [83, 83] by unfold upL; rw [if_pos h223])
        rw [h223]
        clear h223
        go_wp2_with fail
        refine (put_int w.heap.size _ _ _ (by omega) (by omega) _ hI' (by have := HL.out; omega) (by have := hbw.size; simpa using this)).mono ?_
        rintro e w2 ⟨v2, rfl, hI2, hb2⟩
        go_wp2_with fail
        refine (put_int w.heap.size _ _ _ (by omega) (by omega) _ hI2 (by have := HL.out; rw [List.length_append, bL_length [_]]; simp; omega) (Nat.le_trans hbw.size hb2.size)).mono ?_
        rintro e w3 ⟨v3, rfl, hI3, hb3⟩
        go_wp2
        go_roundw
        case rel => exact ⟨k + 1, by go_num, by omega, own_eq (by rw [HG.out, HE.out, bL_append, show bL [83, 83] = bL [83] ++ bL [83] from rfl, ← List.append_assoc]; rfl) hI3, ((below_drewN' hbw n).trans hb2).trans hb3⟩
        case measure => simp [intOf]; omega
      · have HE := Lib.hid (show upL (un s k) = [capU (un s k)] by unfold upL; rw [if_neg h223])
        have ht : (((un s k : Nat) : Int) == 223) = false := by simp; omega
        go_wp2_with (go_at_call 64; refine (put_int w.heap.size _ _ _ (by omega) (by have := HU.out; omega) _ (by assumption) (by have := HL.out; omega) (by have := hbw.size; simpa using this)).mono ?_; rintro e w2 ⟨v2, rfl, hI2, hb2⟩)
        all_goals
          go_roundw
          case rel =>
            refine ⟨k + 1, by go_num, by omega, own_eq ?_ hI2, (below_drewN' hbw n).trans hb2⟩
            rw [HG.out, HE.out, bL_append]
            refine congrArg (fun y => bL (upT s k) ++ bL [y]) ?_
            first | (unfold capU; (repeat' split) <;> omega) | (simp at *; unfold capU; (repeat' split) <;> omega)
          case measure => simp [intOf]; omega
    · have hlt' : ¬ ((k : Int) < (ln s : Int)) := by omega
      have HZ := Lib.hid (show upT s k = upS s by rw [show k = ln s by omega, upT_all])
      have hcv := own_string hI
      go_wp2_with (go_at_call 29; refine (c1 _).mono ?_; rintro e w' ⟨rfl, rfl⟩)
      go_ret
      rw [HZ.out]
      exact ⟨rfl, hbw⟩
end Go.Proofs.YthnkidncjkhndaaDoor
