/-
  Contracts of Compare of the program and of the reference.
-/
import Derived.Test.YthnkidncjkhndaaDoorFind
import Derived.Test.YthnkidncjkhndaaDoorWhole
namespace Go.Proofs.YthnkidncjkhndaaDoor
open Go.RowKit
def cmpU : List Nat → List Nat → Int
  | [], [] => 0
  | [], _ :: _ => -1
  | _ :: _, [] => 1
  | a :: la, b :: lb => if a < b then -1 else if b < a then 1 else cmpU la lb
theorem u8_lt (a b : Nat) (ha : a < 256) (hb : b < 256) : UInt8.ofNat a < UInt8.ofNat b ↔ a < b := by
  rw [UInt8.lt_iff_toNat_lt, UInt8.toNat_ofNat', UInt8.toNat_ofNat', Nat.mod_eq_of_lt (by simpa using ha), Nat.mod_eq_of_lt (by simpa using hb)]
theorem u8_low (a : Nat) : UInt8.ofNat a = UInt8.ofNat (a % 256) := by
  apply UInt8.toNat_inj.1
  rw [UInt8.toNat_ofNat', UInt8.toNat_ofNat']
  simp
theorem cmp_bL : ∀ (l m : List Nat), (∀ u ∈ l, u < 65536) → (∀ u ∈ m, u < 65536) → Lib.compareBytes (bL l) (bL m) = cmpU l m
  | [], [], _, _ => rfl
  | [], b :: lb, _, _ => rfl
  | a :: la, [], _, _ => rfl
  | a :: la, b :: lb, hl, hm => by
    have ha := hl a (by simp)
    have hb := hm b (by simp)
    have ih := cmp_bL la lb (fun u h => hl u (by simp [h])) (fun u h => hm u (by simp [h]))
    rw [bL_cons, bL_cons, u8_low a, u8_low b]
    simp only [Lib.compareBytes, cmpU]
    simp only [u8_lt (a / 256) (b / 256) (by omega) (by omega), u8_lt (b / 256) (a / 256) (by omega) (by omega), u8_lt (a % 256) (b % 256) (by omega) (by omega), u8_lt (b % 256) (a % 256) (by omega) (by omega), ih]
    repeat' split
    all_goals omega
set_option maxRecDepth 100000 in
theorem compare_any (a b : ByteArray) (w : World) (ha : a.size ≤ maxLen) (hb : b.size ≤ maxLen) :
    Calls Tryd.prog 36 #[.string a, .string b] w fun e w' => e = .returned (.int .i64 (cmpU (us a) (us b))) ∧ w = w' := by
  have c1 := fun W => whole_any a W ha
  have c2 := fun W => whole_any b W hb
  have HE := Lib.hid (show Lib.compareBytes (wh a).data.toList (wh b).data.toList = cmpU (us a) (us b) by
    rw [wh_data, wh_data]
    exact cmp_bL _ _ (us_lt a) (us_lt b))
  go_enter Tryd.func36, Tryd.ntmps36
  go_wp2_with (first | (go_at_call 80; first | (refine (c1 _).mono ?_; rintro e w' ⟨rfl, rfl⟩) | (refine (c2 _).mono ?_; rintro e w' ⟨rfl, rfl⟩)) | (go_at_call 79; refine (Tryd.strings_Compare _ _ _).mono ?_; rintro e w' ⟨rfl, rfl⟩))
  go_ret
  exact ⟨by rw [← HE.out]; rfl, rfl⟩
theorem us_drop (a : ByteArray) (k : Nat) (h : k < ln a) : (us a).drop k = un a k :: (us a).drop (k + 1) := by
  have h2 : k < (us a).length := by rw [us_length]; exact h
  rw [List.drop_eq_getElem_cons h2, us_getElem]
theorem us_drop_end (a : ByteArray) (k : Nat) (h : ln a ≤ k) : (us a).drop k = [] := List.drop_eq_nil_iff.2 (by rw [us_length]; exact h)
set_option maxRecDepth 100000 in
set_option maxHeartbeats 2000000 in
theorem rcompare_any (a b : ByteArray) (w : World) (ha : a.size ≤ maxLen) (hb : b.size ≤ maxLen) :
    Calls Tryd.prog 37 #[.string a, .string b] w fun e w' => e = .returned (.int .i64 (cmpU (us a) (us b))) ∧ ∃ n, w' = w.drewN n := by
  have hl := ln_le a
  have hl2 := ln_le b
  have hm : ((ln a : Nat) : Int) ≤ 4611686018427387903 := by unfold maxLen at ha; omega
  have hm2 : ((ln b : Nat) : Int) ≤ 4611686018427387903 := by unfold maxLen at hb; omega
  have c1 := fun W => rlen_any a W ha
  have c2 := fun W => rlen_any b W hb
  have HA := Lib.hid (fun W (k : Nat) (h : k < ln a) => rat_any a k W h ha)
  have HB := Lib.hid (fun W (k : Nat) (h : k < ln b) => rat_any b k W h hb)
  obtain ⟨C, hC⟩ : ∃ C, cmpU (us a) (us b) = C := ⟨_, rfl⟩
  rw [hC]
  have HC := Lib.hid (show cmpU ((us a).drop 0) ((us b).drop 0) = C by simpa using hC)
  clear ha hb hl hl2 hC
  go_enter Tryd.func37, Tryd.ntmps37
  go_wp2
  go_loopw [5, 6, 7] (fun i _ _ wr => ∃ k : Nat, i = .int .i64 k ∧ k ≤ ln a ∧ k ≤ ln b ∧ Hid (cmpU ((us a).drop k) ((us b).drop k) = C) ∧ ∃ n, wr = w.drewN n) (fun i _ _ _ => ln a - (intOf i).toNat)
  case atStart => exact ⟨0, rfl, by omega, by omega, HC, 0, rfl⟩
  case round =>
    obtain ⟨k, rfl, hka, hkb, HD, n, rfl⟩ := hrel
    clear HC
    by_cases h1 : k < ln a
    · by_cases h2 : k < ln b
      · have d1 := fun W => HA.out W k h1
        have d2 := fun W => HB.out W k h2
        have hD := HD.out
        rw [us_drop a k h1, us_drop b k h2] at hD
        simp only [cmpU] at hD
        clear HD
        by_cases g1 : un a k < un b k
        · rw [if_pos g1] at hD
          have HE := Lib.hid hD
          have g1' : ((un a k : Nat) : Int) < (un b k : Nat) := by omega
          clear hD g1
          go_wp2_with (first | (go_at_call 29; first | (refine (c1 _).mono ?_; rintro e w' ⟨rfl, rfl⟩) | (refine (c2 _).mono ?_; rintro e w' ⟨rfl, rfl⟩)) | fail)
          refine (d1 _).mono ?_
          rintro e w' ⟨rfl, n2, rfl⟩
          go_wp2_with fail
          refine (d2 _).mono ?_
          rintro e w' ⟨rfl, n3, rfl⟩
          go_wp2
          go_ret
          exact ⟨by rw [← HE.out]; rfl, _, rfl⟩
        · rw [if_neg g1] at hD
          by_cases g2 : un b k < un a k
          · rw [if_pos g2] at hD
            have HE := Lib.hid hD
            have g1' : ¬ ((un a k : Nat) : Int) < (un b k : Nat) := by omega
            have g2' : ((un b k : Nat) : Int) < (un a k : Nat) := by omega
            clear hD g1 g2
            go_wp2_with (first | (go_at_call 29; first | (refine (c1 _).mono ?_; rintro e w' ⟨rfl, rfl⟩) | (refine (c2 _).mono ?_; rintro e w' ⟨rfl, rfl⟩)) | fail)
            refine (d1 _).mono ?_
            rintro e w' ⟨rfl, n2, rfl⟩
            go_wp2_with fail
            refine (d2 _).mono ?_
            rintro e w' ⟨rfl, n3, rfl⟩
            go_wp2
            go_ret
            exact ⟨by rw [← HE.out]; rfl, _, rfl⟩
          · rw [if_neg g2] at hD
            have HE := Lib.hid hD
            have g1' : ¬ ((un a k : Nat) : Int) < (un b k : Nat) := by omega
            have g2' : ¬ ((un b k : Nat) : Int) < (un a k : Nat) := by omega
            clear hD g1 g2
            go_wp2_with (first | (go_at_call 29; first | (refine (c1 _).mono ?_; rintro e w' ⟨rfl, rfl⟩) | (refine (c2 _).mono ?_; rintro e w' ⟨rfl, rfl⟩)) | fail)
            refine (d1 _).mono ?_
            rintro e w' ⟨rfl, n2, rfl⟩
            go_wp2_with fail
            refine (d2 _).mono ?_
            rintro e w' ⟨rfl, n3, rfl⟩
            go_wp2
            go_roundw
            case rel => exact ⟨k + 1, by go_num, by omega, by omega, HE, _, rfl⟩
            case measure => simp [intOf]; omega
      · have hD := HD.out
        rw [us_drop a k h1, us_drop_end b k (by omega)] at hD
        simp only [cmpU] at hD
        have HE := Lib.hid hD
        have g : ((ln b : Nat) : Int) < (ln a : Nat) := by omega
        clear hD HD
        go_wp2_with (first | (go_at_call 29; first | (refine (c1 _).mono ?_; rintro e w' ⟨rfl, rfl⟩) | (refine (c2 _).mono ?_; rintro e w' ⟨rfl, rfl⟩)))
        go_ret
        exact ⟨by rw [← HE.out]; rfl, _, rfl⟩
    · have hD := HD.out
      rw [us_drop_end a k (by omega)] at hD
      by_cases h2 : k < ln b
      · rw [us_drop b k h2] at hD
        simp only [cmpU] at hD
        have HE := Lib.hid hD
        have g : ((ln a : Nat) : Int) < (ln b : Nat) := by omega
        clear hD HD
        go_wp2_with (first | (go_at_call 29; first | (refine (c1 _).mono ?_; rintro e w' ⟨rfl, rfl⟩) | (refine (c2 _).mono ?_; rintro e w' ⟨rfl, rfl⟩)))
        go_ret
        exact ⟨by rw [← HE.out]; rfl, _, rfl⟩
      · rw [us_drop_end b k (by omega)] at hD
        simp only [cmpU] at hD
        have HE := Lib.hid hD
        have g : ((ln a : Nat) : Int) = (ln b : Nat) := by omega
        clear hD HD
        go_wp2_with (first | (go_at_call 29; first | (refine (c1 _).mono ?_; rintro e w' ⟨rfl, rfl⟩) | (refine (c2 _).mono ?_; rintro e w' ⟨rfl, rfl⟩)))
        go_ret
        exact ⟨by rw [← HE.out]; rfl, _, rfl⟩
end Go.Proofs.YthnkidncjkhndaaDoor
