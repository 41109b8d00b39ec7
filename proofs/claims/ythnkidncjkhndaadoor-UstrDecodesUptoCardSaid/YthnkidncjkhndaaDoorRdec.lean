/-
  The contract of the reference's Decode, and of the law UstrDecodes (at most 2^45 bytes).
-/
import Derived.Test.YthnkidncjkhndaaDoorPoint
import Derived.Test.YthnkidncjkhndaaDoorAwake
import Derived.Test.YthnkidncjkhndaaDoorUnitLaw
import Derived.Test.YthnkidncjkhndaaDoorLetters
namespace Go.Proofs.YthnkidncjkhndaaDoor
open Go.RowKit
theorem and_u32_1023 (b : Nat) (hb : b < 4294967296) : bits BinOp.and IntKind.u32 (b : Int) 1023 = (b : Int) % 1024 := and_u32_m b 10 hb (by omega)
set_option maxRecDepth 100000 in
set_option maxHeartbeats 2000000 in
theorem rdecode_any (s : ByteArray) (w : World) (hs : s.size ≤ 35184372088832) :
    Calls Tryd.prog 15 #[.string s] w fun e w' => e = .returned (.tuple #[.string ⟨(decT (decS s)).toArray⟩, .int .i64 (decI (decS s)), .int .i64 (decE (decS s))]) ∧ Below w.heap.size w w' := by
  have hm : (s.size : Int) ≤ 35184372088832 := by omega
  have HS := Lib.hid hs
  clear hs
  go_enter Tryd.func15, Tryd.ntmps15
  go_wp2
  go_loopw [5, 6] (fun v i wr => ∃ (pos fuel : Nat) (acc : List Nat), i = .int .i64 pos ∧ pos ≤ s.size ∧ Own w.heap.size (bL acc) v wr ∧ Below w.heap.size w wr ∧ glue acc (decF s fuel pos) = decS s ∧ s.size ≤ pos + fuel ∧ acc.length ≤ pos) (fun _ i _ => s.size - (intOf i).toNat)
  case atStart => exact ⟨0, s.size, [], rfl, Nat.zero_le _, Own.nil _ _, Below.refl _ _, glue_nil _, by omega, by simp⟩
  case round =>
    obtain ⟨pos, fuel, acc, rfl, hp, hI, hbw, hacc, hfu, hal⟩ := hrel
    have HA := Lib.hid hacc
    clear hacc
    by_cases hlt : pos < s.size
    · obtain ⟨f, rfl⟩ : ∃ f, fuel = f + 1 := ⟨fuel - 1, by omega⟩
      have hlt' : (pos : Int) < (s.size : Int) := by omega
      have hpt := fun W => point_any s pos W (by have := HS.out; omega) hlt
      obtain ⟨p, hpe⟩ : ∃ p, (ptS s pos).1 = p := ⟨_, rfl⟩
      obtain ⟨n, hne⟩ : ∃ n, (ptS s pos).2 = n := ⟨_, rfl⟩
      rw [hpe, hne] at hpt
      by_cases hz : n = 0
      · subst hz
        have HZ := Lib.hid (show decS s = .inl pos by rw [← HA.out, decF_bad s f pos hlt hne]; rfl)
        clear HA hpe hne
        go_wp2_with (go_at_call 63; refine (hpt _).mono ?_; rintro e w2 ⟨rfl, m, rfl⟩)
        go_ret3
        rw [HZ.out]
        exact ⟨rfl, below_drewN' hbw m⟩
      · have hz' : (ptS s pos).2 ≠ 0 := by rw [hne]; exact hz
        have hok := ptS_ok s pos hlt hz'
        have hgo := decF_go s f pos hlt hz'
        rw [hpe, hne] at hok hgo
        obtain ⟨ha, hb, hc, hd, he, hf⟩ := hok
        have HG := Lib.hid (show glue (acc ++ pu p) (decF s f (pos + n)) = decS s by rw [← HA.out, hgo, glue_glue])
        have hl2 := pu_length p
        have hl1 : p < 65536 → (pu p).length = 1 := fun h => by unfold pu; rw [if_pos h]; rfl
        have hlen : (acc ++ pu p).length ≤ pos + n := by
          rw [List.length_append]
          by_cases h : p < 65536
          · rw [hl1 h]; omega
          · have := hf (by omega); omega
        have HL := Lib.hid (show (bL acc).length + 4 ≤ 140737488355328 by rw [bL_length]; have := HS.out; omega)
        have hn0 : ((n : Int) == 0) = false := by simp; omega
        have hn1 : 1 ≤ (n : Int) := by omega
        have hn4 : (n : Int) ≤ 4 := by omega
        by_cases hp6 : p < 65536
        · have HE := Lib.hid (show pu p = [p] by unfold pu; rw [if_pos hp6])
          have ht : decide ((p : Int) < 65536) = true := by simp; omega
          have HW := Lib.hid (show IntKind.u16.wrap (p : Int) = (p : Int) from IntWalk.u16_in _ (by omega))
          have HM := Lib.hid (show (p : Int) % 65536 = (p : Int) by omega)
          have HP := Lib.hid hp6
          clear hgo hd he hf hl1 hl2 hpe hne HA hc hz hz' hp6
          go_wp2_with fail
          refine (hpt _).mono ?_
          rintro e w2 ⟨rfl, m, rfl⟩
          go_wp2_with fail
          first | rw [HW.out] | rw [HM.out] | skip
          refine (put_any w.heap.size _ _ p HP.out _ (own_drewN hI m) (by have := HL.out; omega) (by have := hbw.size; simpa using this)).mono ?_
          rintro e w3 ⟨v3, rfl, hI3, hb3⟩
          go_wp2
          go_roundw
          case rel => exact ⟨pos + n, f, acc ++ pu p, by go_num, by omega, by rw [bL_append, HE.out]; exact hI3, (below_drewN' hbw m).trans hb3, HG.out, by omega, hlen⟩
          case measure => simp [intOf]; omega
        · have HLN := Lib.hid hlen
          clear hlen
          obtain ⟨r, hr⟩ : ∃ r, (p - 65536) / 1024 = r := ⟨_, rfl⟩
          obtain ⟨x, hx⟩ : ∃ x, (p - 65536) % 1024 = x := ⟨_, rfl⟩
          obtain ⟨q, hq⟩ : ∃ q, p - 65536 = q := ⟨_, rfl⟩
          have HE := Lib.hid (show bL (pu p) = bL [55296 + r] ++ bL [56320 + x] by unfold pu; rw [if_neg hp6, hr, hx]; rfl)
          have ht : decide ((p : Int) < 65536) = false := by simp; omega
          have v1 : IntKind.u32.wrap ((p : Int) - 65536) = (q : Int) := by rw [IntWalk.u32_in _ (by omega)]; omega
          have v2 : (q : Int) / 1024 = (r : Int) := by omega
          have v3 : bits BinOp.and IntKind.u32 (q : Int) 1023 = (x : Int) := by rw [and_u32_1023 q (by omega)]; omega
          have v4 : IntKind.u32.wrap (55296 + (r : Int)) = ((55296 + r : Nat) : Int) := by rw [IntWalk.u32_in _ (by omega)]; omega
          have v5 : IntKind.u32.wrap (56320 + (x : Int)) = ((56320 + x : Nat) : Int) := by rw [IntWalk.u32_in _ (by omega)]; omega
          have W1 := Lib.hid (show IntKind.u16.wrap (55296 + (r : Int)) = ((55296 + r : Nat) : Int) by rw [IntWalk.u16_in _ (by omega)]; omega)
          have W2 := Lib.hid (show IntKind.u16.wrap (56320 + (x : Int)) = ((56320 + x : Nat) : Int) by rw [IntWalk.u16_in _ (by omega)]; omega)
          have R1 := Lib.hid (show 55296 + r < 65536 by omega)
          have X1 := Lib.hid (show 56320 + x < 65536 by omega)
          clear hgo hd he hf hl1 hl2 hpe hne HA hc hz hz' hp6 hr hx hq
          go_wp2_with fail
          refine (hpt _).mono ?_
          rintro e w2 ⟨rfl, m, rfl⟩
          go_wp2_with fail
          rw [W1.out]
          refine (put_any w.heap.size _ _ (55296 + r) R1.out _ (own_drewN hI m) (by have := HL.out; omega) (by have := hbw.size; simpa using this)).mono ?_
          rintro e w3 ⟨v3, rfl, hI3, hb3⟩
          go_wp2_with fail
          rw [W2.out]
          refine (put_any w.heap.size _ _ (56320 + x) X1.out _ hI3 (by have := HL.out; rw [List.length_append, bL_length [_]]; simp; omega) (Nat.le_trans hbw.size hb3.size)).mono ?_
          rintro e w4 ⟨v4', rfl, hI4, hb4⟩
          go_wp2
          go_roundw
          case rel => exact ⟨pos + n, f, acc ++ pu p, by go_num, by omega, by rw [bL_append, HE.out, ← List.append_assoc]; exact hI4, ((below_drewN' hbw m).trans hb3).trans hb4, HG.out, by omega, HLN.out⟩
          case measure => simp [intOf]; omega
    · have HZ := Lib.hid (show decS s = .inr acc by rw [← HA.out, decF_end s fuel pos hlt]; simp [glue])
      have hlt' : ¬ ((pos : Int) < (s.size : Int)) := by omega
      have hcv := own_string hI
      clear HA
      go_wp2
      go_ret3
      rw [HZ.out]
      exact ⟨rfl, hbw⟩
set_option maxRecDepth 100000 in
theorem decodes_any (s : ByteArray) (w : World) (hs : s.size ≤ 35184372088832) (hT : Lib.Utf8Tabs 0 1 w) :
    Calls Tryd.prog 3 #[.string s] w fun e w' => e = .returned (.bool true) ∧ Below w.heap.size w w' := by
  have ha := fun W (hb : Below w.heap.size w W) => awake_any W (tabs_below hT (tabs_two hT) hb)
  have c1 := decode_any s w hs hT
  have c2 := fun W => rdecode_any s W hs
  obtain ⟨D, hD⟩ : ∃ D, decT (decS s) = D := ⟨_, rfl⟩
  obtain ⟨I, hI⟩ : ∃ I, decI (decS s) = I := ⟨_, rfl⟩
  obtain ⟨E, hE⟩ : ∃ E, decE (decS s) = E := ⟨_, rfl⟩
  rw [hD, hI, hE] at c1
  simp only [hD, hI, hE] at c2
  clear hT hs hD hI hE
  go_enter Tryd.func3, Tryd.ntmps3
  go_wp2_with fail
  refine c1.mono ?_
  rintro e W1 ⟨rfl, b1⟩
  go_wp2_with fail
  refine (c2 _).mono ?_
  rintro e W2 ⟨rfl, b2⟩
  have B2 := below_le b1 b2
  go_wp2_with (go_at_call 16; refine (ha _ B2).mono ?_; rintro e w' ⟨rfl, hb⟩)
  go_ret
  exact ⟨rfl, below_le B2 hb⟩
end Go.Proofs.YthnkidncjkhndaaDoor
