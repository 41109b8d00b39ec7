/-
  The law UstrBack (texts of at most 2^42 bytes): Encode of Decode is the bytes; Decode of Encode the text.
-/
import Derived.Test.YthnkidncjkhndaaDoorBackPure
import Derived.Test.YthnkidncjkhndaaDoorUnitLaw
import Derived.Test.YthnkidncjkhndaaDoorWhole
namespace Go.Proofs.YthnkidncjkhndaaDoor
open Go.RowKit
set_option maxRecDepth 100000 in
set_option maxHeartbeats 2000000 in
/-- The second half, behind the test of the bytes. -/
theorem backLaw_any (b s : ByteArray) (w : World) (hb : b.size ≤ 1048576) (hs : s.size ≤ 1048576) (hT : Lib.Utf8Tabs 0 1 w) :
    Calls Tryd.prog 12 #[.string b, .string s] w fun e w' => e = .returned (.bool true) ∧ Below w.heap.size w w' := by
  have hl := ln_le s
  have hlu := ln_up s
  have ha := Lib.hid (fun W (h : Below w.heap.size w W) => awake_any W (tabs_below hT (tabs_two hT) h))
  have h63 : s.size ≤ maxLen := by unfold maxLen; omega
  have c1 := decode_any b w (by omega) hT
  have c3 := fun W => rlen_any s W h63
  have c4 := fun W => encode_any s W (by omega)
  have hel := encS_len s
  obtain ⟨m2, hm2, hlone⟩ := back_enc s
  have c5 := Lib.hid (fun W (h : Below w.heap.size w W) => decode_any ⟨(encS s).toArray⟩ W (by show (encS s).toArray.size ≤ _; simp; omega) (tabs_below hT (tabs_two hT) h))
  rw [hm2, show decI (.inr m2) = 0 from rfl, show decE (.inr m2) = 0 from rfl, show decT (.inr m2) = bL m2 from rfl] at c5
  have hsm : (s.size : Int) ≤ 1048576 := by omega
  have hln : ((ln s : Nat) : Int) ≤ 524288 := by omega
  have hfst : (∃ i, decS b = .inl i) ∨ ∃ l, decS b = .inr l := by
    cases h : decS b
    · exact .inl ⟨_, rfl⟩
    · exact .inr ⟨_, rfl⟩
  rcases hfst with ⟨i, hi⟩ | ⟨l, hi⟩
  · rw [hi, show decI (.inl i) = i from rfl, show decE (.inl i) = 10 from rfl, show decT (.inl i) = [] from rfl] at c1
    clear hT hi hb hs
    by_cases hodd : s.size % 2 = 1
    · have ho : (((s.size : Int) % 2) == 1) = true := by simp; omega
      clear hodd hl hlu hel hm2 hlone
      go_enter Tryd.func12, Tryd.ntmps12
      go_wp2_with fail
      refine c1.mono ?_
      rintro e W1 ⟨rfl, b1⟩
      have B2 := b1
      go_wp2_with (go_at_call 16; refine (ha.out _ B2).mono ?_; rintro e w' ⟨rfl, hb⟩)
      go_ret
      exact ⟨rfl, below_le B2 hb⟩
    · have ho : (((s.size : Int) % 2) == 1) = false := by simp; omega
      have hsz : s.size = 2 * ln s := by omega
      have hself : (⟨(bL (us s)).toArray⟩ : ByteArray) = s := by
        rw [← wh_eq]
        unfold wh
        rw [← hsz]
        apply ByteArray.ext
        simp
      have HL := Lib.hid (show loneS s = false → (⟨(bL m2).toArray⟩ : ByteArray) = s from fun h => by rw [hlone h, hself])
      have c6 := Lib.hid (fun W k => runit_any s k W h63)
      clear hodd hl hlu hel hm2 hlone hself hsz h63
      go_enter Tryd.func12, Tryd.ntmps12
      go_wp2_with fail
      refine c1.mono ?_
      rintro e W1 ⟨rfl, b1⟩
      have B2 := b1
      clear c1
      go_wp2
      go_loopw [8, 9] (fun x i wr => ∃ (k f : Nat) (y : Bool), i = .int .i64 k ∧ x = .bool y ∧ (y || loneL f ((us s).drop k)) = loneS s ∧ ln s ≤ k + f ∧ k ≤ ln s + 1 ∧ Below w.heap.size w wr) (fun _ i _ => ln s + 1 - (intOf i).toNat)
      case atStart => exact ⟨0, ln s, false, rfl, rfl, rfl, by omega, by omega, B2⟩
      case round =>
        obtain ⟨k, f0, y, rfl, rfl, hx, hf, hk, hbw⟩ := hrel
        have HX := Lib.hid hx
        clear hx
        by_cases hlt : k < ln s
        · obtain ⟨f, rfl⟩ : ∃ f, f0 = f + 1 := ⟨f0 - 1, by omega⟩
          have hlt' : (k : Int) < (ln s : Int) := by omega
          have e1 : unOk s (k : Int) = true := by simp [unOk]; omega
          have e2 : unV s (k : Int) = un s k := by unfold unV; rw [if_pos e1]; rfl
          have cU : ∀ W, Calls Tryd.prog 20 #[.string s, .int .i64 k] W fun e w' => e = .returned (.tuple #[.int .u16 (un s k : Nat), .bool true]) ∧ ∃ n, w' = W.drewN n := fun W => by
            have := c6.out W (k : Int)
            rwa [e1, e2] at this
          clear e1 e2
          cases hh : hiB (un s k)
          · have HE := Lib.hid (show (y || (loB (un s k) || loneL f ((us s).drop (k + 1)))) = loneS s by rw [← HX.out, loneL_not s f k hlt hh])
            have hor : (decide ((55296 : Int) ≤ ((un s k : Nat) : Int)) = false ∧ decide ((56320 : Int) ≤ ((un s k : Nat) : Int)) = false ∧ loB (un s k) = false) ∨
                (decide ((55296 : Int) ≤ ((un s k : Nat) : Int)) = true ∧ decide (((un s k : Nat) : Int) < 56320) = false ∧ decide ((56320 : Int) ≤ ((un s k : Nat) : Int)) = true ∧ decide (((un s k : Nat) : Int) < 57344) = true ∧ loB (un s k) = true) ∨
                (decide ((55296 : Int) ≤ ((un s k : Nat) : Int)) = true ∧ decide (((un s k : Nat) : Int) < 56320) = false ∧ decide ((56320 : Int) ≤ ((un s k : Nat) : Int)) = true ∧ decide (((un s k : Nat) : Int) < 57344) = false ∧ loB (un s k) = false) := by
              simp [hiB] at hh
              simp [loB]
              omega
            clear HX hh
            rcases hor with ⟨g1, g2, g3⟩ | ⟨g1, g2, g3, g4, g5⟩ | ⟨g1, g2, g3, g4, g5⟩
            · have HF := Lib.hid (show (y || loneL f ((us s).drop (k + 1))) = loneS s by rw [← HE.out, g3]; simp)
              clear g3 HE
              cases y
              all_goals
                go_wp2_with (first | (go_at_call 29; refine (c3 _).mono ?_; rintro e w' ⟨rfl, rfl⟩) | (go_at_call 20; refine (cU _).mono ?_; rintro e w' ⟨rfl, n, rfl⟩))
                go_roundw
                case rel => exact ⟨k + 1, f, _, by go_num, rfl, HF.out, by omega, by omega, below_drewN' hbw n⟩
                case measure => simp [intOf]; omega
            · have HF := Lib.hid (show (true || loneL f ((us s).drop (k + 1))) = loneS s by rw [← HE.out, g5]; simp)
              clear g5 HE
              cases y
              all_goals
                go_wp2_with (first | (go_at_call 29; refine (c3 _).mono ?_; rintro e w' ⟨rfl, rfl⟩) | (go_at_call 20; refine (cU _).mono ?_; rintro e w' ⟨rfl, n, rfl⟩))
                go_roundw
                case rel => exact ⟨k + 1, f, _, by go_num, rfl, HF.out, by omega, by omega, below_drewN' hbw n⟩
                case measure => simp [intOf]; omega
            · have HF := Lib.hid (show (y || loneL f ((us s).drop (k + 1))) = loneS s by rw [← HE.out, g5]; simp)
              clear g5 HE
              cases y
              all_goals
                go_wp2_with (first | (go_at_call 29; refine (c3 _).mono ?_; rintro e w' ⟨rfl, rfl⟩) | (go_at_call 20; refine (cU _).mono ?_; rintro e w' ⟨rfl, n, rfl⟩))
                go_roundw
                case rel => exact ⟨k + 1, f, _, by go_num, rfl, HF.out, by omega, by omega, below_drewN' hbw n⟩
                case measure => simp [intOf]; omega
          · have HE := Lib.hid (show (y || (!(loB (un s (k + 1))) || loneL f ((us s).drop (k + 2)))) = loneS s by rw [← HX.out, loneL_hi s f k hlt hh])
            have t1 : decide ((55296 : Int) ≤ ((un s k : Nat) : Int)) = true := by simp [hiB] at hh; simp; omega
            have t2 : decide (((un s k : Nat) : Int) < 56320) = true := by simp [hiB] at hh; simp; omega
            have cV : ∀ W, Calls Tryd.prog 20 #[.string s, .int .i64 ((k : Int) + 1)] W fun e w' => e = .returned (.tuple #[.int .u16 (un s (k + 1) : Nat), .bool (unOk s ((k : Int) + 1))]) ∧ ∃ n, w' = W.drewN n := fun W => by
              have h1 := c6.out W ((k : Int) + 1)
              have h2 : unV s ((k : Int) + 1) = un s (k + 1) := by
                unfold unV
                by_cases h : k + 1 < ln s
                · have : unOk s ((k : Int) + 1) = true := by simp [unOk]; omega
                  rw [if_pos this, show ((k : Int) + 1).toNat = k + 1 by omega]
                · have : unOk s ((k : Int) + 1) = false := by simp [unOk]; omega
                  have h0 : un s (k + 1) = 0 := by
                    unfold un
                    rw [List.getD_eq_getElem?_getD, List.getElem?_eq_none (by rw [us_length]; omega)]
                    rfl
                  rw [if_neg (by rw [this]; simp), h0]
              rwa [h2] at h1
            have hor : (decide (((un s (k + 1) : Nat) : Int) < 56320) = true ∧ loB (un s (k + 1)) = false) ∨
                (decide (((un s (k + 1) : Nat) : Int) < 56320) = false ∧ decide ((57344 : Int) ≤ ((un s (k + 1) : Nat) : Int)) = true ∧ loB (un s (k + 1)) = false) ∨
                (decide (((un s (k + 1) : Nat) : Int) < 56320) = false ∧ decide ((57344 : Int) ≤ ((un s (k + 1) : Nat) : Int)) = false ∧ loB (un s (k + 1)) = true) := by
              simp [loB]
              omega
            obtain ⟨ok, hok⟩ : ∃ ok, unOk s ((k : Int) + 1) = ok := ⟨_, rfl⟩
            rw [hok] at cV
            clear HX hh hok
            rcases hor with ⟨g1, g3⟩ | ⟨g1, g2, g3⟩ | ⟨g1, g2, g3⟩
            · have HF := Lib.hid (show (true || loneL f ((us s).drop (k + 2))) = loneS s by rw [← HE.out, g3]; simp)
              clear g3 HE
              cases y
              all_goals
                go_wp2_with fail
                refine (c3 _).mono ?_
                rintro e w' ⟨rfl, rfl⟩
                go_wp2_with fail
                refine (cU _).mono ?_
                rintro e w' ⟨rfl, n, rfl⟩
                go_wp2_with fail
                refine (cV _).mono ?_
                rintro e w' ⟨rfl, n2, rfl⟩
                go_wp2
                go_roundw
                case rel => exact ⟨k + 2, f, _, by go_num, rfl, HF.out, by omega, by omega, below_drewN' hbw _⟩
                case measure => simp [intOf]; omega
            · have HF := Lib.hid (show (true || loneL f ((us s).drop (k + 2))) = loneS s by rw [← HE.out, g3]; simp)
              clear g3 HE
              cases y
              all_goals
                go_wp2_with fail
                refine (c3 _).mono ?_
                rintro e w' ⟨rfl, rfl⟩
                go_wp2_with fail
                refine (cU _).mono ?_
                rintro e w' ⟨rfl, n, rfl⟩
                go_wp2_with fail
                refine (cV _).mono ?_
                rintro e w' ⟨rfl, n2, rfl⟩
                go_wp2
                go_roundw
                case rel => exact ⟨k + 2, f, _, by go_num, rfl, HF.out, by omega, by omega, below_drewN' hbw _⟩
                case measure => simp [intOf]; omega
            · have HF := Lib.hid (show (y || loneL f ((us s).drop (k + 2))) = loneS s by rw [← HE.out, g3]; simp)
              clear g3 HE
              cases y
              all_goals
                go_wp2_with fail
                refine (c3 _).mono ?_
                rintro e w' ⟨rfl, rfl⟩
                go_wp2_with fail
                refine (cU _).mono ?_
                rintro e w' ⟨rfl, n, rfl⟩
                go_wp2_with fail
                refine (cV _).mono ?_
                rintro e w' ⟨rfl, n2, rfl⟩
                go_wp2
                go_roundw
                case rel => exact ⟨k + 2, f, _, by go_num, rfl, HF.out, by omega, by omega, below_drewN' hbw _⟩
                case measure => simp [intOf]; omega
        · have HZ := Lib.hid (show y = loneS s by rw [← HX.out, loneL_end s f0 k hlt, Bool.or_false])
          have hlt' : ¬ ((k : Int) < (ln s : Int)) := by omega
          clear HX
          cases y
          · have hr := HL.out HZ.out.symm
            rw [hr] at c5
            clear hr
            go_wp2_with fail
            refine (c3 _).mono ?_
            rintro e w' ⟨rfl, rfl⟩
            go_wp2_with fail
            refine (c4 _).mono ?_
            rintro e W3 ⟨rfl, b3⟩
            have B3 := below_le hbw b3
            go_wp2_with fail
            refine (c5.out _ B3).mono ?_
            rintro e W4 ⟨rfl, b4⟩
            have B4 := below_le B3 b4
            go_wp2_with (go_at_call 16; refine (ha.out _ B4).mono ?_; rintro e w' ⟨rfl, hb⟩)
            go_ret
            exact ⟨rfl, below_le B4 hb⟩
          · go_wp2_with fail
            refine (c3 _).mono ?_
            rintro e w' ⟨rfl, rfl⟩
            go_wp2_with fail
            refine (c4 _).mono ?_
            rintro e W3 ⟨rfl, b3⟩
            have B3 := below_le hbw b3
            go_wp2_with fail
            refine (c5.out _ B3).mono ?_
            rintro e W4 ⟨rfl, b4⟩
            have B4 := below_le B3 b4
            go_wp2_with (go_at_call 16; refine (ha.out _ B4).mono ?_; rintro e w' ⟨rfl, hb⟩)
            go_ret
            exact ⟨rfl, below_le B4 hb⟩
  · have hbk := back_dec b l hi
    rw [hi, show decI (.inr l) = 0 from rfl, show decE (.inr l) = 0 from rfl, show decT (.inr l) = bL l from rfl] at c1
    have c2 := fun W => encode_any ⟨(bL l).toArray⟩ W (by show (bL l).toArray.size ≤ _; have := bL_length l; simp; omega)
    rw [hbk.1, show (⟨b.data.toList.toArray⟩ : ByteArray) = b by apply ByteArray.ext; simp] at c2
    clear hT hbk hi hb hs
    by_cases hodd : s.size % 2 = 1
    · have ho : (((s.size : Int) % 2) == 1) = true := by simp; omega
      clear hodd hl hlu hel hm2 hlone
      go_enter Tryd.func12, Tryd.ntmps12
      go_wp2_with fail
      refine c1.mono ?_
      rintro e W1 ⟨rfl, b1⟩
      go_wp2_with fail
      refine (c2 _).mono ?_
      rintro e W2 ⟨rfl, b2⟩
      have B2 := below_le b1 b2
      go_wp2_with (go_at_call 16; refine (ha.out _ B2).mono ?_; rintro e w' ⟨rfl, hb⟩)
      go_ret
      exact ⟨rfl, below_le B2 hb⟩
    · have ho : (((s.size : Int) % 2) == 1) = false := by simp; omega
      have hsz : s.size = 2 * ln s := by omega
      have hself : (⟨(bL (us s)).toArray⟩ : ByteArray) = s := by
        rw [← wh_eq]
        unfold wh
        rw [← hsz]
        apply ByteArray.ext
        simp
      have HL := Lib.hid (show loneS s = false → (⟨(bL m2).toArray⟩ : ByteArray) = s from fun h => by rw [hlone h, hself])
      have c6 := Lib.hid (fun W k => runit_any s k W h63)
      clear hodd hl hlu hel hm2 hlone hself hsz h63
      go_enter Tryd.func12, Tryd.ntmps12
      go_wp2_with fail
      refine c1.mono ?_
      rintro e W1 ⟨rfl, b1⟩
      go_wp2_with fail
      refine (c2 _).mono ?_
      rintro e W2 ⟨rfl, b2⟩
      have B2 := below_le b1 b2
      clear c1 c2
      go_wp2
      go_loopw [8, 9] (fun x i wr => ∃ (k f : Nat) (y : Bool), i = .int .i64 k ∧ x = .bool y ∧ (y || loneL f ((us s).drop k)) = loneS s ∧ ln s ≤ k + f ∧ k ≤ ln s + 1 ∧ Below w.heap.size w wr) (fun _ i _ => ln s + 1 - (intOf i).toNat)
      case atStart => exact ⟨0, ln s, false, rfl, rfl, rfl, by omega, by omega, B2⟩
      case round =>
        obtain ⟨k, f0, y, rfl, rfl, hx, hf, hk, hbw⟩ := hrel
        have HX := Lib.hid hx
        clear hx
        by_cases hlt : k < ln s
        · obtain ⟨f, rfl⟩ : ∃ f, f0 = f + 1 := ⟨f0 - 1, by omega⟩
          have hlt' : (k : Int) < (ln s : Int) := by omega
          have e1 : unOk s (k : Int) = true := by simp [unOk]; omega
          have e2 : unV s (k : Int) = un s k := by unfold unV; rw [if_pos e1]; rfl
          have cU : ∀ W, Calls Tryd.prog 20 #[.string s, .int .i64 k] W fun e w' => e = .returned (.tuple #[.int .u16 (un s k : Nat), .bool true]) ∧ ∃ n, w' = W.drewN n := fun W => by
            have := c6.out W (k : Int)
            rwa [e1, e2] at this
          clear e1 e2
          cases hh : hiB (un s k)
          · have HE := Lib.hid (show (y || (loB (un s k) || loneL f ((us s).drop (k + 1)))) = loneS s by rw [← HX.out, loneL_not s f k hlt hh])
            have hor : (decide ((55296 : Int) ≤ ((un s k : Nat) : Int)) = false ∧ decide ((56320 : Int) ≤ ((un s k : Nat) : Int)) = false ∧ loB (un s k) = false) ∨
                (decide ((55296 : Int) ≤ ((un s k : Nat) : Int)) = true ∧ decide (((un s k : Nat) : Int) < 56320) = false ∧ decide ((56320 : Int) ≤ ((un s k : Nat) : Int)) = true ∧ decide (((un s k : Nat) : Int) < 57344) = true ∧ loB (un s k) = true) ∨
                (decide ((55296 : Int) ≤ ((un s k : Nat) : Int)) = true ∧ decide (((un s k : Nat) : Int) < 56320) = false ∧ decide ((56320 : Int) ≤ ((un s k : Nat) : Int)) = true ∧ decide (((un s k : Nat) : Int) < 57344) = false ∧ loB (un s k) = false) := by
              simp [hiB] at hh
              simp [loB]
              omega
            clear HX hh
            rcases hor with ⟨g1, g2, g3⟩ | ⟨g1, g2, g3, g4, g5⟩ | ⟨g1, g2, g3, g4, g5⟩
            · have HF := Lib.hid (show (y || loneL f ((us s).drop (k + 1))) = loneS s by rw [← HE.out, g3]; simp)
              clear g3 HE
              cases y
              all_goals
                go_wp2_with (first | (go_at_call 29; refine (c3 _).mono ?_; rintro e w' ⟨rfl, rfl⟩) | (go_at_call 20; refine (cU _).mono ?_; rintro e w' ⟨rfl, n, rfl⟩))
                go_roundw
                case rel => exact ⟨k + 1, f, _, by go_num, rfl, HF.out, by omega, by omega, below_drewN' hbw n⟩
                case measure => simp [intOf]; omega
            · have HF := Lib.hid (show (true || loneL f ((us s).drop (k + 1))) = loneS s by rw [← HE.out, g5]; simp)
              clear g5 HE
              cases y
              all_goals
                go_wp2_with (first | (go_at_call 29; refine (c3 _).mono ?_; rintro e w' ⟨rfl, rfl⟩) | (go_at_call 20; refine (cU _).mono ?_; rintro e w' ⟨rfl, n, rfl⟩))
                go_roundw
                case rel => exact ⟨k + 1, f, _, by go_num, rfl, HF.out, by omega, by omega, below_drewN' hbw n⟩
                case measure => simp [intOf]; omega
            · have HF := Lib.hid (show (y || loneL f ((us s).drop (k + 1))) = loneS s by rw [← HE.out, g5]; simp)
              clear g5 HE
              cases y
              all_goals
                go_wp2_with (first | (go_at_call 29; refine (c3 _).mono ?_; rintro e w' ⟨rfl, rfl⟩) | (go_at_call 20; refine (cU _).mono ?_; rintro e w' ⟨rfl, n, rfl⟩))
                go_roundw
                case rel => exact ⟨k + 1, f, _, by go_num, rfl, HF.out, by omega, by omega, below_drewN' hbw n⟩
                case measure => simp [intOf]; omega
          · have HE := Lib.hid (show (y || (!(loB (un s (k + 1))) || loneL f ((us s).drop (k + 2)))) = loneS s by rw [← HX.out, loneL_hi s f k hlt hh])
            have t1 : decide ((55296 : Int) ≤ ((un s k : Nat) : Int)) = true := by simp [hiB] at hh; simp; omega
            have t2 : decide (((un s k : Nat) : Int) < 56320) = true := by simp [hiB] at hh; simp; omega
            have cV : ∀ W, Calls Tryd.prog 20 #[.string s, .int .i64 ((k : Int) + 1)] W fun e w' => e = .returned (.tuple #[.int .u16 (un s (k + 1) : Nat), .bool (unOk s ((k : Int) + 1))]) ∧ ∃ n, w' = W.drewN n := fun W => by
              have h1 := c6.out W ((k : Int) + 1)
              have h2 : unV s ((k : Int) + 1) = un s (k + 1) := by
                unfold unV
                by_cases h : k + 1 < ln s
                · have : unOk s ((k : Int) + 1) = true := by simp [unOk]; omega
                  rw [if_pos this, show ((k : Int) + 1).toNat = k + 1 by omega]
                · have : unOk s ((k : Int) + 1) = false := by simp [unOk]; omega
                  have h0 : un s (k + 1) = 0 := by
                    unfold un
                    rw [List.getD_eq_getElem?_getD, List.getElem?_eq_none (by rw [us_length]; omega)]
                    rfl
                  rw [if_neg (by rw [this]; simp), h0]
              rwa [h2] at h1
            have hor : (decide (((un s (k + 1) : Nat) : Int) < 56320) = true ∧ loB (un s (k + 1)) = false) ∨
                (decide (((un s (k + 1) : Nat) : Int) < 56320) = false ∧ decide ((57344 : Int) ≤ ((un s (k + 1) : Nat) : Int)) = true ∧ loB (un s (k + 1)) = false) ∨
                (decide (((un s (k + 1) : Nat) : Int) < 56320) = false ∧ decide ((57344 : Int) ≤ ((un s (k + 1) : Nat) : Int)) = false ∧ loB (un s (k + 1)) = true) := by
              simp [loB]
              omega
            obtain ⟨ok, hok⟩ : ∃ ok, unOk s ((k : Int) + 1) = ok := ⟨_, rfl⟩
            rw [hok] at cV
            clear HX hh hok
            rcases hor with ⟨g1, g3⟩ | ⟨g1, g2, g3⟩ | ⟨g1, g2, g3⟩
            · have HF := Lib.hid (show (true || loneL f ((us s).drop (k + 2))) = loneS s by rw [← HE.out, g3]; simp)
              clear g3 HE
              cases y
              all_goals
                go_wp2_with fail
                refine (c3 _).mono ?_
                rintro e w' ⟨rfl, rfl⟩
                go_wp2_with fail
                refine (cU _).mono ?_
                rintro e w' ⟨rfl, n, rfl⟩
                go_wp2_with fail
                refine (cV _).mono ?_
                rintro e w' ⟨rfl, n2, rfl⟩
                go_wp2
                go_roundw
                case rel => exact ⟨k + 2, f, _, by go_num, rfl, HF.out, by omega, by omega, below_drewN' hbw _⟩
                case measure => simp [intOf]; omega
            · have HF := Lib.hid (show (true || loneL f ((us s).drop (k + 2))) = loneS s by rw [← HE.out, g3]; simp)
              clear g3 HE
              cases y
              all_goals
                go_wp2_with fail
                refine (c3 _).mono ?_
                rintro e w' ⟨rfl, rfl⟩
                go_wp2_with fail
                refine (cU _).mono ?_
                rintro e w' ⟨rfl, n, rfl⟩
                go_wp2_with fail
                refine (cV _).mono ?_
                rintro e w' ⟨rfl, n2, rfl⟩
                go_wp2
                go_roundw
                case rel => exact ⟨k + 2, f, _, by go_num, rfl, HF.out, by omega, by omega, below_drewN' hbw _⟩
                case measure => simp [intOf]; omega
            · have HF := Lib.hid (show (y || loneL f ((us s).drop (k + 2))) = loneS s by rw [← HE.out, g3]; simp)
              clear g3 HE
              cases y
              all_goals
                go_wp2_with fail
                refine (c3 _).mono ?_
                rintro e w' ⟨rfl, rfl⟩
                go_wp2_with fail
                refine (cU _).mono ?_
                rintro e w' ⟨rfl, n, rfl⟩
                go_wp2_with fail
                refine (cV _).mono ?_
                rintro e w' ⟨rfl, n2, rfl⟩
                go_wp2
                go_roundw
                case rel => exact ⟨k + 2, f, _, by go_num, rfl, HF.out, by omega, by omega, below_drewN' hbw _⟩
                case measure => simp [intOf]; omega
        · have HZ := Lib.hid (show y = loneS s by rw [← HX.out, loneL_end s f0 k hlt, Bool.or_false])
          have hlt' : ¬ ((k : Int) < (ln s : Int)) := by omega
          clear HX
          cases y
          · have hr := HL.out HZ.out.symm
            rw [hr] at c5
            clear hr
            go_wp2_with fail
            refine (c3 _).mono ?_
            rintro e w' ⟨rfl, rfl⟩
            go_wp2_with fail
            refine (c4 _).mono ?_
            rintro e W3 ⟨rfl, b3⟩
            have B3 := below_le hbw b3
            go_wp2_with fail
            refine (c5.out _ B3).mono ?_
            rintro e W4 ⟨rfl, b4⟩
            have B4 := below_le B3 b4
            go_wp2_with (go_at_call 16; refine (ha.out _ B4).mono ?_; rintro e w' ⟨rfl, hb⟩)
            go_ret
            exact ⟨rfl, below_le B4 hb⟩
          · go_wp2_with fail
            refine (c3 _).mono ?_
            rintro e w' ⟨rfl, rfl⟩
            go_wp2_with fail
            refine (c4 _).mono ?_
            rintro e W3 ⟨rfl, b3⟩
            have B3 := below_le hbw b3
            go_wp2_with fail
            refine (c5.out _ B3).mono ?_
            rintro e W4 ⟨rfl, b4⟩
            have B4 := below_le B3 b4
            go_wp2_with (go_at_call 16; refine (ha.out _ B4).mono ?_; rintro e w' ⟨rfl, hb⟩)
            go_ret
            exact ⟨rfl, below_le B4 hb⟩
end Go.Proofs.YthnkidncjkhndaaDoor
