/-
  Contracts of Index of the program and of the reference.
-/
import Derived.Test.YthnkidncjkhndaaDoorFind
import Derived.Test.YthnkidncjkhndaaDoorWhole
namespace Go.Proofs.YthnkidncjkhndaaDoor
open Go.RowKit
theorem uL_drop : ∀ (i : Nat) (l : List UInt8), uL (l.drop (2 * i)) = (uL l).drop i
  | 0, l => by simp
  | i + 1, [] => by simp [uL]
  | i + 1, [a] => by simp [uL, show 2 * (i + 1) = (2 * i + 1) + 1 by omega]
  | i + 1, a :: b :: r => by
    rw [show 2 * (i + 1) = 2 * i + 1 + 1 by omega]
    simp only [List.drop_succ_cons, uL]
    exact uL_drop i r
theorem uL_take : ∀ (i : Nat) (l : List UInt8), uL (l.take (2 * i)) = (uL l).take i
  | 0, l => by simp [uL]
  | i + 1, [] => by simp [uL]
  | i + 1, [a] => by simp [uL, show 2 * (i + 1) = (2 * i + 1) + 1 by omega]
  | i + 1, a :: b :: r => by
    rw [show 2 * (i + 1) = 2 * i + 1 + 1 by omega]
    simp only [List.take_succ_cons, uL]
    rw [uL_take i r]
theorem cut_data (s : ByteArray) (i m : Nat) (h : i + m ≤ ln s) : (s.extract (2 * i) (2 * i + 2 * m)).data.toList = bL (((us s).drop i).take m) := by
  have hl := ln_le s
  unfold us
  rw [← uL_drop, ← uL_take, bL_uL, Lib.extract_data, List.length_take, List.length_drop, ← Lib.size_eq]
  rw [show min (2 * m) (s.size - 2 * i) = 2 * m by omega, show 2 * m / 2 = m by omega, List.take_take, Nat.min_self]
  congr 1
  omega
theorem cut_St (s t : ByteArray) (i : Nat) (h : i + ln t ≤ ln s) : s.extract (2 * i) (2 * i + 2 * ln t) = wh t ↔ St (us s) (us t) i := by
  have h1 := cut_data s i (ln t) h
  have h2 := wh_data t
  constructor
  · intro e
    rw [e, h2] at h1
    have h3 := congrArg uL h1
    rw [uL_bL _ (us_lt t), uL_bL _ (fun u hu => us_lt s u (List.mem_of_mem_drop (List.mem_of_mem_take hu)))] at h3
    exact ⟨by rw [us_length, us_length]; exact h, by rw [us_length]; exact h3.symm⟩
  · intro e
    have h3 := e.2
    rw [us_length] at h3
    rw [h3, ← h2] at h1
    apply ByteArray.ext
    exact Array.toList_inj.1 h1
set_option maxRecDepth 100000 in
set_option maxHeartbeats 2000000 in
theorem index_any (s t : ByteArray) (fr : Int) (w : World) (hs : s.size ≤ 35184372088832) (ht : t.size ≤ 35184372088832) :
    Calls Tryd.prog 32 #[.string s, .string t, .int .i64 fr] w fun e w' => ∃ r : Int, e = .returned (.int .i64 r) ∧ FindIs (us s) (us t) (max fr 0).toNat r ∧ Below w.heap.size w w' := by
  have hl := ln_le s
  have hl2 := ln_le t
  have hm : ((ln s : Nat) : Int) ≤ 17592186044416 := by omega
  have hm2 : ((ln t : Nat) : Int) ≤ 17592186044416 := by omega
  have h63 : s.size ≤ maxLen := by unfold maxLen; omega
  have t63 : t.size ≤ maxLen := by unfold maxLen; omega
  have S63 := Lib.hid h63
  have T63 := Lib.hid t63
  have T45 := Lib.hid ht
  have c1 := fun W => len_any s W h63
  have c2 := fun W => len_any t W t63
  have hm1 : 0 ≤ max fr 0 := by omega
  obtain ⟨m, hm0⟩ : ∃ m : Int, max fr 0 = m := ⟨_, rfl⟩
  rw [hm0] at hm1 ⊢
  have hsl := us_length s
  have htl := us_length t
  obtain ⟨k, rfl⟩ := Int.eq_ofNat_of_zero_le hm1
  clear hs ht hl hl2 h63 t63 hm1
  rw [show ((k : Nat) : Int).toNat = k from rfl]
  by_cases hA : (k : Int) > (ln s : Nat) - ((ln t : Nat) : Int)
  · have HE := Lib.hid (show FindIs (us s) (us t) k (-1) from .inl ⟨rfl, fun j h1 h2 => by have := h2.1; omega⟩)
    clear hsl htl
    go_enter Tryd.func32, Tryd.ntmps32
    go_wp2_with (first | (go_at_call 28; first | (refine (c1 _).mono ?_; rintro e w' ⟨rfl, rfl⟩) | (refine (c2 _).mono ?_; rintro e w' ⟨rfl, rfl⟩)))
    go_ret
    exact ⟨_, rfl, HE.out, Below.refl _ _⟩
  · by_cases hB : ln t = 0
    · have hB' : ((ln t : Nat) : Int) = 0 := by omega
      have HE := Lib.hid (show FindIs (us s) (us t) k (k : Nat) from .inr ⟨k, rfl, Nat.le_refl _, ⟨by omega, by rw [htl, hB, List.take_zero]; exact (List.length_eq_zero_iff.1 (by omega)).symm⟩, fun j h1 h2 => by omega⟩)
      clear hsl htl hB
      go_enter Tryd.func32, Tryd.ntmps32
      go_wp2_with (first | (go_at_call 28; first | (refine (c1 _).mono ?_; rintro e w' ⟨rfl, rfl⟩) | (refine (c2 _).mono ?_; rintro e w' ⟨rfl, rfl⟩)))
      go_ret
      exact ⟨_, rfl, HE.out, Below.refl _ _⟩
    · have hB' : ¬ ((ln t : Nat) : Int) = 0 := by omega
      have c3 := fun W => borders_any t W T45.out
      have C4 := Lib.hid (fun W b f (hr : W.rowIs b 3 (ln t) (fun j => .int .i64 (f j : Nat))) hb => find_any s t b f k W S63.out T63.out (by omega) (by omega) hr hb)
      clear hsl htl
      go_enter Tryd.func32, Tryd.ntmps32
      go_wp2_with (first | (go_at_call 28; first | (refine (c1 _).mono ?_; rintro e w' ⟨rfl, rfl⟩) | (refine (c2 _).mono ?_; rintro e w' ⟨rfl, rfl⟩)) | fail)
      refine (c3 _).mono ?_
      rintro e w1 ⟨f, rfl, hrow, hbd, hbel⟩
      have C5 := Lib.hid (C4.out w1 w.heap.size f hrow hbd)
      clear hrow hbd c3
      go_wp2_with fail
      refine C5.out.mono ?_
      rintro e w2 ⟨r, rfl, hF, n, rfl⟩
      go_wp2
      go_ret
      exact ⟨_, rfl, hF, below_drewN' hbel n⟩
end Go.Proofs.YthnkidncjkhndaaDoor
