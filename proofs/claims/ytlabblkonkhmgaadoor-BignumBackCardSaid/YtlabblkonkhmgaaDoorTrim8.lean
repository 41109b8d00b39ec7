/-
  Contract of strings.TrimLeft of noughts.
-/
import Derived.Test.YtlabblkonkhmgaaDoorBytes
import Derived.Test.YtlabblkonkhmgaaDoorParse
import Derived.Laws.Closers25b
namespace Go.Proofs.YtlabblkonkhmgaaDoor
open Go.RowKit
theorem tz_cons_ne {x : Nat} {l : List Nat} (h : x ≠ 48) : tz (x :: l) = x :: l := by
  unfold tz; rw [List.dropWhile_cons, if_neg (by simpa using h)]
theorem tz_cons_eq (l : List Nat) : tz (48 :: l) = tz l := by
  unfold tz; rw [List.dropWhile_cons, if_pos (by simp)]
theorem bl_cons (s : ByteArray) (h : 0 < s.size) : bl s = (s[0]'h).toNat :: (bl s).drop 1 := by
  have h1 := bl_get s 0 h
  cases hb : bl s with
  | nil => rw [hb] at h1; cases h1
  | cons x r =>
    rw [hb] at h1
    simp at h1
    rw [h1]; rfl
set_option maxHeartbeats 1000000 in
theorem trimByte_any (s : ByteArray) (w : World) (hs : s.size ≤ 4611686018427387903) :
    Calls Tryd.prog 51 #[.string s, .int .u8 48] w fun e w' => (∃ t, e = .returned (.string t) ∧ bl t = tz (bl s)) ∧ w = w' := by
  have hs1 : (s.size : Int) ≤ 4611686018427387903 := by omega
  clear hs
  go_enter Tryd.func51, Tryd.ntmps51
  go_wp2
  go_loopw [0] (fun tv wr => ∃ t : ByteArray, tv = .string t ∧ Hid (tz (bl t) = tz (bl s)) ∧ (t.size : Int) ≤ 4611686018427387903 ∧ w = wr) (fun tv _ => strLen tv)
  case atStart => exact ⟨s, rfl, Lib.hid rfl, hs1, rfl⟩
  case round =>
    obtain ⟨t, rfl, HT, hts, rfl⟩ := hrel
    by_cases h0 : 0 < t.size
    · have hb := bl_cons t h0
      have a1 : (0 : Int) < (t.size : Int) := by omega
      have hxl := (t[0]'h0).toNat_lt
      by_cases hx : (t[0]'h0).toNat = 48
      · have HD := Lib.hid (show tz (bl (t.extract 1 t.size)) = tz (bl s) from by
          rw [bl_drop, ← HT.out, hb, hx, tz_cons_eq]; rfl)
        have b1 : (((t[0]'h0).toNat : Int) == 48) = true := by rw [hx]; rfl
        have b2 : (1 : Int) ≤ (t.size : Int) := by omega
        clear hb hxl hx
        go_wp2
        go_roundw
        case rel => exact ⟨_, rfl, HD, by rw [ByteArray.size_extract]; omega, trivial⟩
        case measure => simp [strLen, ByteArray.size_extract]; omega
      · have HD := Lib.hid (show bl t = tz (bl s) from by
          rw [← HT.out, hb, tz_cons_ne hx])
        have b1 : (((t[0]'h0).toNat : Int) == 48) = false := by rw [beq_eq_false_iff_ne]; omega
        clear hb hxl hx
        go_wp2
        go_ret
        exact ⟨⟨t, rfl, HD.out⟩, rfl⟩
    · have HD := Lib.hid (show bl t = tz (bl s) from by
        have h1 : bl t = [] := List.eq_nil_of_length_eq_zero (by rw [bl_len]; omega)
        rw [← HT.out, h1]; rfl)
      have a1 : ¬ (0 : Int) < (t.size : Int) := by omega
      clear h0
      go_wp2
      go_ret
      exact ⟨⟨t, rfl, HD.out⟩, rfl⟩
set_option maxRecDepth 100000 in
set_option maxHeartbeats 1000000 in
theorem trimLeft_any (s : ByteArray) (w : World) (hs : s.size ≤ 4611686018427387903) :
    Calls Tryd.prog 26 #[.string s, .string ⟨#[48]⟩] w fun e w' => (∃ t, e = .returned (.string t) ∧ bl t = tz (bl s)) ∧ w = w' := by
  have C1 := Lib.hid (fun W => trimByte_any s W hs)
  by_cases h0 : s = ByteArray.empty
  · subst h0
    clear hs
    go_enter Tryd.func26, Tryd.ntmps26
    go_wp2
    go_ret
    exact ⟨⟨_, rfl, rfl⟩, rfl⟩
  · clear hs
    have b1 : ¬ s.toList = [] := fun h => h0 ((toList_nil_iff_emptyBytes s).1 h)
    have b2 : s.toList.isEmpty = false := by
      cases hs : s.toList with
      | nil => exact absurd hs b1
      | cons => rfl
    have e48 : (((⟨#[48]⟩ : ByteArray)[0]'(by decide)).toNat : Int) < 128 := by decide
    clear h0
    go_enter Tryd.func26, Tryd.ntmps26
    go_wp2_with fail
    refine (C1.out _).mono ?_
    rintro e w' ⟨⟨t, rfl, ht⟩, rfl⟩
    go_wp2
    go_ret
    exact ⟨⟨t, rfl, ht⟩, rfl⟩
end Go.Proofs.YtlabblkonkhmgaaDoor
