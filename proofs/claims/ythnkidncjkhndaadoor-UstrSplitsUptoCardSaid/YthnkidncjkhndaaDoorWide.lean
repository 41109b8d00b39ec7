/-
  Contracts of the program's and the reference's Wide: a text of bytes, each a unit (at most 2^45 bytes).
-/
import Derived.Test.YthnkidncjkhndaaDoorConv
namespace Go.Proofs.YthnkidncjkhndaaDoor
open Go.RowKit
def wdL (s : ByteArray) : List Nat := s.data.toList.map fun b => b.toNat
theorem wdL_length (s : ByteArray) : (wdL s).length = s.size := by rw [wdL, List.length_map, ← Lib.size_eq]
theorem wdL_succ (s : ByteArray) (k : Nat) (h : k < s.size) : (wdL s).take (k + 1) = (wdL s).take k ++ [(s[k]'h).toNat] := by
  have h' : k < (wdL s).length := by rw [wdL_length]; exact h
  rw [List.take_succ_eq_append_getElem h']
  simp [wdL]; rfl
theorem wdL_all (s : ByteArray) : (wdL s).take s.size = wdL s := List.take_of_length_le (by rw [wdL_length]; exact Nat.le_refl _)
theorem take_len {α : Type} (l : List α) (k : Nat) : (l.take k).length ≤ k := List.length_take_le _ _
set_option maxRecDepth 100000 in
set_option maxHeartbeats 1000000 in
theorem wide_any (s : ByteArray) (w : World) (hs : s.size ≤ 35184372088832) :
    Calls Tryd.prog 21 #[.string s] w fun e w' => e = .returned (.string ⟨(bL (wdL s)).toArray⟩) ∧ Below w.heap.size w w' := by
  have hm : (s.size : Int) ≤ 35184372088832 := by omega
  have HS := Lib.hid hs
  clear hs
  have hg : Calls Tryd.prog 59 #[.pointer (some ⟨w.heap.size, 0, none⟩), .int .i64 (2 * (s.size : Int))] (w.alloc (.cells #[.pointer none, .slice none 0 0] 54)) fun e w' => e = .returned (.tuple #[]) ∧ (Lib.BuilderAt 54 5 w.heap.size w.heap.size (.pointer (some ⟨w.heap.size, 0, none⟩)) [] w' ∧ Below w.heap.size (w.alloc (.cells #[.pointer none, .slice none 0 0] 54)) w') :=
    Tryd.Builder_Grow_fresh w.heap.size w.heap.size (2 * s.size) _ (Nat.le_refl _) (alloc_new w _) (by simp) (by have := HS.out; omega)
  go_enter Tryd.func21, Tryd.ntmps21
  go_wp2_with fail
  refine hg.mono ?_
  rintro e w1 ⟨rfl, hb1, bl1⟩
  have hbl : Below w.heap.size w w1 := ((Below.refl w.heap.size w).alloc (Nat.le_refl _) _).trans bl1
  clear hg
  go_wp2
  go_loopw [11] (fun i wr => ∃ k : Nat, i = .int .i64 k ∧ k ≤ s.size ∧ Bld w.heap.size (bL ((wdL s).take k)) wr ∧ Below w.heap.size w wr) (fun i _ => s.size - (intOf i).toNat)
  case atStart => exact ⟨0, rfl, Nat.zero_le _, Lib.IsBuilderF.of (.inr hb1), hbl⟩
  case round =>
    obtain ⟨k, rfl, hk, hI, hbw⟩ := hrel
    have hsz := bld_lt hI
    by_cases hlt : k < s.size
    · have hl := take_len (wdL s) k
      have hu := (s[k]'hlt).toNat_lt
      have hr := fun W h hb => writeUnit_any w.heap.size (bL ((wdL s).take k)) (s[k]'hlt).toNat (by omega) W h (by rw [bL_length]; have := HS.out; omega) hb
      have HW := Lib.hid (show IntKind.u16.wrap (((s[k]'hlt).toNat : Nat) : Int) = ((s[k]'hlt).toNat : Int) from IntWalk.u16_in _ (by omega))
      have HG := Lib.hid (wdL_succ s k hlt)
      clear hl hu
      go_wp2_with fail
      rw [HW.out]
      refine (hr _ hI (by omega)).mono ?_
      rintro e w2 ⟨rfl, hI2, hb2⟩
      go_wp2
      go_roundw
      case rel => exact ⟨k + 1, by go_num, by omega, by rw [HG.out, bL_append]; exact hI2, hbw.trans hb2⟩
      case measure => simp [intOf]; omega
    · have hS := Tryd.Builder_String_any_k w.heap.size w.heap.size _ wr hI (by omega)
      have HZ := Lib.hid (show (wdL s).take k = wdL s by rw [show k = s.size by omega]; exact wdL_all s)
      go_wp2_with (go_at_call 62; refine hS.mono ?_; rintro e w2 ⟨rfl, _, hb2, _⟩)
      go_ret
      rw [HZ.out]
      exact ⟨rfl, hbw.trans hb2⟩
set_option maxRecDepth 100000 in
set_option maxHeartbeats 1000000 in
theorem rwide_any (s : ByteArray) (w : World) (hs : s.size ≤ 35184372088832) :
    Calls Tryd.prog 22 #[.string s] w fun e w' => e = .returned (.string ⟨(bL (wdL s)).toArray⟩) ∧ Below w.heap.size w w' := by
  have hm : (s.size : Int) ≤ 35184372088832 := by omega
  have HS := Lib.hid hs
  clear hs
  go_enter Tryd.func22, Tryd.ntmps22
  go_wp2
  go_loopw [3, 4] (fun v i wr => ∃ k : Nat, i = .int .i64 k ∧ k ≤ s.size ∧ Own w.heap.size (bL ((wdL s).take k)) v wr ∧ Below w.heap.size w wr) (fun _ i _ => s.size - (intOf i).toNat)
  case atStart => exact ⟨0, rfl, Nat.zero_le _, Own.nil _ _, Below.refl _ _⟩
  case round =>
    obtain ⟨k, rfl, hk, hI, hbw⟩ := hrel
    by_cases hlt : k < s.size
    · have hl := take_len (wdL s) k
      have hu := (s[k]'hlt).toNat_lt
      have hr := fun W v h hb => put_any w.heap.size (bL ((wdL s).take k)) v (s[k]'hlt).toNat (by omega) W h (by rw [bL_length]; have := HS.out; omega) hb
      have HW := Lib.hid (show IntKind.u16.wrap (((s[k]'hlt).toNat : Nat) : Int) = ((s[k]'hlt).toNat : Int) from IntWalk.u16_in _ (by omega))
      have HG := Lib.hid (wdL_succ s k hlt)
      clear hl hu
      go_wp2_with fail
      rw [HW.out]
      refine (hr _ _ hI hbw.size).mono ?_
      rintro e w2 ⟨v2, rfl, hI2, hb2⟩
      go_wp2
      go_roundw
      case rel => exact ⟨k + 1, by go_num, by omega, by rw [HG.out, bL_append]; exact hI2, hbw.trans hb2⟩
      case measure => simp [intOf]; omega
    · have HZ := Lib.hid (show (wdL s).take k = wdL s by rw [show k = s.size by omega]; exact wdL_all s)
      have hcv := own_string hI
      go_wp2
      go_ret
      rw [HZ.out]
      exact ⟨rfl, hbw⟩
end Go.Proofs.YthnkidncjkhndaaDoor
