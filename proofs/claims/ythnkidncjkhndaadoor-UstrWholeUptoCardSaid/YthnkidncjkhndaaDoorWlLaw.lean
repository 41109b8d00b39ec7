/-
  The law UstrWhole (texts of at most 2^20 bytes).
-/
import Derived.Test.YthnkidncjkhndaaDoorWlPure
import Derived.Test.YthnkidncjkhndaaDoorJoin
import Derived.Test.YthnkidncjkhndaaDoorAwake
namespace Go.Proofs.YthnkidncjkhndaaDoor
open Go.RowKit
/-- Join of Split is the text. -/
theorem splitTwo_any (s t : ByteArray) (w : World) (hs : s.size ≤ 1048576) (ht : t.size ≤ 1048576) (hp : 0 < ln t) (he : s.size % 2 = 0) :
    Calls Tryd.prog 55 #[.string s, .string t] w fun e w' => ∃ A n c L, e = .returned (.slice A n c) ∧ (RS w' w'.heap.size A L ∧ L.length = n ∧ n ≤ 1048576 ∧ (∀ x ∈ L, x.size ≤ 1048576) ∧ tx (jn (us t) (L.map us)) = s) ∧ Below w.heap.size w w' := by
  refine (split_any s t w hs ht hp).mono ?_
  rintro e w' ⟨v, ps, rfl, hS, hO, hb⟩
  obtain ⟨A, c, rfl, hR⟩ := hO.reads
  have h1 := spl_len hS (by rw [us_length]; exact hp) (Nat.zero_le _)
  rw [us_length] at h1
  have hl := ln_le s
  refine ⟨A, _, c, ps.map tx, rfl, ⟨hR, rfl, by rw [List.length_map]; omega, ?_, split_join s t ps hS he⟩, hb⟩
  intro x hx
  simp only [List.mem_map] at hx
  obtain ⟨p, hp2, rfl⟩ := hx
  have := spl_size hS p hp2
  rw [us_length] at this
  rw [tx_size]; omega
set_option maxRecDepth 100000 in
set_option maxHeartbeats 8000000 in
theorem wholeLaw_any (s t : ByteArray) (a : Int) (w : World) (hs : s.size ≤ 1048576) (ht : t.size ≤ 1048576) (hT : Lib.Utf8Tabs 0 1 w) :
    Calls Tryd.prog 13 #[.string s, .string t, .int .i64 a] w fun e w' => e = .returned (.bool true) ∧ Below w.heap.size w w' := by
  have S63 := Lib.hid (show s.size ≤ maxLen by unfold maxLen; omega)
  have T63 := Lib.hid (show t.size ≤ maxLen by unfold maxLen; omega)
  have ka : ∀ W, Below w.heap.size w W → Calls Tryd.prog 16 #[] W fun e w' => e = .returned (.bool true) ∧ Below w.heap.size w w' := fun W hB => by
    refine (awake_any W (tabs_below hT (tabs_two hT) hB)).mono ?_
    rintro e w' ⟨rfl, h⟩
    exact ⟨rfl, below_le hB h⟩
  have hl := ln_le s
  have hl2 := ln_le t
  have hsm : (s.size : Int) ≤ 1048576 := by omega
  have htm : (t.size : Int) ≤ 1048576 := by omega
  have KA := Lib.hid ka
  have B0 := Below.refl w.heap.size w
  clear hT ka
  by_cases hos : s.size % 2 = 1
  · have ho : (((s.size : Int) % 2) == 1) = true := by simp; omega
    clear hos hl hl2 hs ht
    go_enter Tryd.func13, Tryd.ntmps13
    go_wp2_with (go_at_call 16; refine (KA.out _ B0).mono ?_; rintro e w' ⟨rfl, hb⟩)
    go_ret
    exact ⟨rfl, hb⟩
  · have ho : (((s.size : Int) % 2) == 1) = false := by simp; omega
    by_cases hot : t.size % 2 = 1
    · have ho2 : (((t.size : Int) % 2) == 1) = true := by simp; omega
      clear hos hot hl hl2 hs ht
      go_enter Tryd.func13, Tryd.ntmps13
      go_wp2_with (go_at_call 16; refine (KA.out _ B0).mono ?_; rintro e w' ⟨rfl, hb⟩)
      go_ret
      exact ⟨rfl, hb⟩
    · have ho2 : (((t.size : Int) % 2) == 1) = false := by simp; omega
      have hes : s.size % 2 = 0 := by omega
      have het : t.size % 2 = 0 := by omega
      have hsz : s.size = 2 * ln s := by unfold ln; omega
      have htz : t.size = 2 * ln t := by unfold ln; omega
      -- Trim, twice
      obtain ⟨T, hTr⟩ : ∃ T, trimS s = T := ⟨_, rfl⟩
      have hTs : T.size ≤ 1048576 := by
        rw [← hTr]
        unfold trimS slS
        split
        · rw [Lib.size_eq, Lib.extract_data, List.length_take, List.length_drop, ← Lib.size_eq]; omega
        · exact Nat.zero_le _
      have kt1 : ∀ W, Below w.heap.size w W → Calls Tryd.prog 42 #[.string s] W fun e w' => e = .returned (.string T) ∧ Below w.heap.size w w' := fun W hB => by
        refine (trim_any s W S63.out).mono ?_
        rintro e w' ⟨rfl, n, rfl⟩
        exact ⟨by rw [hTr], below_drewN' hB n⟩
      have kt2 : ∀ W, Below w.heap.size w W → Calls Tryd.prog 42 #[.string T] W fun e w' => e = .returned (.string T) ∧ Below w.heap.size w w' := fun W hB => by
        refine (trim_any T W (by unfold maxLen; omega)).mono ?_
        rintro e w' ⟨rfl, n, rfl⟩
        exact ⟨by rw [← hTr, trim_idem], below_drewN' hB n⟩
      -- Lower, twice
      obtain ⟨L, hLo⟩ : ∃ L, tx (loS s) = L := ⟨_, rfl⟩
      have hLs : L.size ≤ 1048576 := by
        rw [← hLo, tx_size]; unfold loS; rw [List.length_map, us_length]; omega
      have kl1 : ∀ W, Below w.heap.size w W → Calls Tryd.prog 40 #[.string s] W fun e w' => e = .returned (.string L) ∧ Below w.heap.size w w' := fun W hB => by
        refine (lower_any s W (by omega)).mono ?_
        rintro e w' ⟨rfl, h⟩
        exact ⟨by rw [← hLo]; rfl, below_le hB h⟩
      have kl2 : ∀ W, Below w.heap.size w W → Calls Tryd.prog 40 #[.string L] W fun e w' => e = .returned (.string L) ∧ Below w.heap.size w w' := fun W hB => by
        refine (lower_any L W (by omega)).mono ?_
        rintro e w' ⟨rfl, h⟩
        exact ⟨by rw [← hLo, lo_idem]; rfl, below_le hB h⟩
      -- Compare, twice
      obtain ⟨C, hC⟩ : ∃ C, cmpU (us s) (us t) = C := ⟨_, rfl⟩
      have kc : ∀ W, Below w.heap.size w W → Calls Tryd.prog 36 #[.string s, .string t] W fun e w' => e = .returned (.int .i64 C) ∧ Below w.heap.size w w' := fun W hB => by
        refine (compare_any s t W S63.out T63.out).mono ?_
        rintro e w' ⟨rfl, rfl⟩
        exact ⟨by rw [hC], hB⟩
      obtain ⟨b1, b2, d1, d2, d3, d4⟩ : ∃ b1 b2 : Bool, decide (C < 0) = b1 ∧ Op.bytesLess s.toList t.toList = b1 ∧ (C == 0) = b2 ∧ (s.toList == t.toList) = b2 := by
        have := cmp_cases s t hes het
        rw [hC] at this
        rcases this with ⟨rfl, h2, h3⟩ | ⟨rfl, h2, h3⟩ | ⟨rfl, h2, h3⟩
        · exact ⟨true, false, rfl, h2, rfl, h3⟩
        · exact ⟨false, true, rfl, h2, rfl, h3⟩
        · exact ⟨false, false, rfl, h2, rfl, h3⟩
      have kn : ∀ W, Below w.heap.size w W → Calls Tryd.prog 28 #[.string s] W fun e w' => e = .returned (.int .i64 (ln s : Nat)) ∧ Below w.heap.size w w' := fun W hB => by
        refine (len_any s W S63.out).mono ?_
        rintro e w' ⟨rfl, rfl⟩
        exact ⟨rfl, hB⟩
      have KT1 := Lib.hid kt1
      have KT2 := Lib.hid kt2
      have KL1 := Lib.hid kl1
      have KL2 := Lib.hid kl2
      have KC := Lib.hid kc
      have KN := Lib.hid kn
      have hat : (a < 0) ∨ (0 ≤ a ∧ (s.size : Int) / 2 < a) ∨ (0 ≤ a ∧ a ≤ (s.size : Int) / 2) := by omega
      obtain ⟨p1, p2, hp12, hpa, hpb⟩ : ∃ p1 p2 : ByteArray, (0 ≤ a → a ≤ (s.size : Int) / 2 → p1 ++ p2 = s) ∧
          (∀ W, Below w.heap.size w W → Calls Tryd.prog 30 #[.string s, .int .i64 0, .int .i64 a] W fun e w' => e = .returned (.string p1) ∧ Below w.heap.size w w') ∧
          (∀ W, Below w.heap.size w W → Calls Tryd.prog 30 #[.string s, .int .i64 a, .int .i64 (ln s : Nat)] W fun e w' => e = .returned (.string p2) ∧ Below w.heap.size w w') := by
        refine ⟨slS s 0 a, slS s a (ln s : Nat), fun h1 h2 => ?_, fun W hB => ?_, fun W hB => ?_⟩
        · have := slS_two s a h1 (by omega) hes
          refine Eq.trans (ByteArray.ext ?_) this
          simp
        · refine (slice_any s 0 a W S63.out).mono ?_
          rintro e w' ⟨rfl, rfl⟩
          exact ⟨rfl, hB⟩
        · refine (slice_any s a (ln s : Nat) W S63.out).mono ?_
          rintro e w' ⟨rfl, rfl⟩
          exact ⟨rfl, hB⟩
      have HPA := Lib.hid hpa
      have HPB := Lib.hid hpb
      have HSP := Lib.hid (fun (hp : 0 < ln t) W => splitTwo_any s t W hs ht hp hes)
      have HJ := Lib.hid (fun W A n c L h1 h2 h3 (h : RS W W.heap.size A L) => join_any A n c L t W h1 h2 ht h3 h)
      have HP12 := Lib.hid hp12
      have hpos : (((t.size : Int) = 0 ∧ t.size = 0)) ∨ (0 < (t.size : Int) ∧ 0 < ln t) := by omega
      clear hos hot hl hl2 hs ht hes het hsz htz hTr hLo hC kt1 kt2 kl1 kl2 kc kn hpa hpb hp12 hTs hLs
      rcases hpos with ⟨hp0, _⟩ | ⟨hp0, hp1⟩
      · have hp0' : ¬ (0 < (t.size : Int)) := by omega
        clear hp0
        rcases hat with h1 | ⟨h1, h2⟩ | ⟨h1, h2⟩
        · go_enter Tryd.func13, Tryd.ntmps13
          go_wp2_with (first
            | (go_at_call 42; (with_reducible refine (KT1.out _ (by assumption)).mono ?_); rintro e w' ⟨rfl, hb⟩)
            | (go_at_call 42; (with_reducible refine (KT2.out _ (by assumption)).mono ?_); rintro e w' ⟨rfl, hb⟩)
            | (go_at_call 40; (with_reducible refine (KL1.out _ (by assumption)).mono ?_); rintro e w' ⟨rfl, hb⟩)
            | (go_at_call 40; (with_reducible refine (KL2.out _ (by assumption)).mono ?_); rintro e w' ⟨rfl, hb⟩)
            | (go_at_call 36; (with_reducible refine (KC.out _ (by assumption)).mono ?_); rintro e w' ⟨rfl, hb⟩)
            | (go_at_call 28; (with_reducible refine (KN.out _ (by assumption)).mono ?_); rintro e w' ⟨rfl, hb⟩)
            | (go_at_call 30; (with_reducible refine (HPA.out _ (by assumption)).mono ?_); rintro e w' ⟨rfl, hb⟩)
            | (go_at_call 30; (with_reducible refine (HPB.out _ (by assumption)).mono ?_); rintro e w' ⟨rfl, hb⟩)
            | (go_at_call 16; (with_reducible refine (KA.out _ (by assumption)).mono ?_); rintro e w' ⟨rfl, hb⟩))
          go_ret
          exact ⟨rfl, by assumption⟩
        · go_enter Tryd.func13, Tryd.ntmps13
          go_wp2_with (first
            | (go_at_call 42; (with_reducible refine (KT1.out _ (by assumption)).mono ?_); rintro e w' ⟨rfl, hb⟩)
            | (go_at_call 42; (with_reducible refine (KT2.out _ (by assumption)).mono ?_); rintro e w' ⟨rfl, hb⟩)
            | (go_at_call 40; (with_reducible refine (KL1.out _ (by assumption)).mono ?_); rintro e w' ⟨rfl, hb⟩)
            | (go_at_call 40; (with_reducible refine (KL2.out _ (by assumption)).mono ?_); rintro e w' ⟨rfl, hb⟩)
            | (go_at_call 36; (with_reducible refine (KC.out _ (by assumption)).mono ?_); rintro e w' ⟨rfl, hb⟩)
            | (go_at_call 28; (with_reducible refine (KN.out _ (by assumption)).mono ?_); rintro e w' ⟨rfl, hb⟩)
            | (go_at_call 30; (with_reducible refine (HPA.out _ (by assumption)).mono ?_); rintro e w' ⟨rfl, hb⟩)
            | (go_at_call 30; (with_reducible refine (HPB.out _ (by assumption)).mono ?_); rintro e w' ⟨rfl, hb⟩)
            | (go_at_call 16; (with_reducible refine (KA.out _ (by assumption)).mono ?_); rintro e w' ⟨rfl, hb⟩))
          go_ret
          exact ⟨rfl, by assumption⟩
        · have hsum := HP12.out h1 h2
          have hsz3 : p1.size + p2.size ≤ 9223372036854775807 := by
            rw [← ByteArray.size_append, hsum]; omega
          have hsum2 : ((p1 ++ p2).toList == s.toList) = true := by rw [hsum]; simp
          clear hsum
          go_enter Tryd.func13, Tryd.ntmps13
          go_wp2_with (first
            | (go_at_call 42; (with_reducible refine (KT1.out _ (by assumption)).mono ?_); rintro e w' ⟨rfl, hb⟩)
            | (go_at_call 42; (with_reducible refine (KT2.out _ (by assumption)).mono ?_); rintro e w' ⟨rfl, hb⟩)
            | (go_at_call 40; (with_reducible refine (KL1.out _ (by assumption)).mono ?_); rintro e w' ⟨rfl, hb⟩)
            | (go_at_call 40; (with_reducible refine (KL2.out _ (by assumption)).mono ?_); rintro e w' ⟨rfl, hb⟩)
            | (go_at_call 36; (with_reducible refine (KC.out _ (by assumption)).mono ?_); rintro e w' ⟨rfl, hb⟩)
            | (go_at_call 28; (with_reducible refine (KN.out _ (by assumption)).mono ?_); rintro e w' ⟨rfl, hb⟩)
            | (go_at_call 30; (with_reducible refine (HPA.out _ (by assumption)).mono ?_); rintro e w' ⟨rfl, hb⟩)
            | (go_at_call 30; (with_reducible refine (HPB.out _ (by assumption)).mono ?_); rintro e w' ⟨rfl, hb⟩)
            | (go_at_call 16; (with_reducible refine (KA.out _ (by assumption)).mono ?_); rintro e w' ⟨rfl, hb⟩))
          go_ret
          exact ⟨rfl, by assumption⟩
      · rcases hat with h1 | ⟨h1, h2⟩ | ⟨h1, h2⟩
        · go_enter Tryd.func13, Tryd.ntmps13
          go_wp2_with fail
          refine (HSP.out hp1 _).mono ?_
          rintro e w1 ⟨A, n, c, L2, rfl, ⟨hR, hn, hn2, hL2, hjn⟩, hb1⟩
          have C2 := HJ.out w1 A n c L2 hn hn2 hL2 hR
          have HJN := Lib.hid hjn
          clear hR hn hn2 hL2 hjn
          go_wp2_with fail
          refine C2.mono ?_
          rintro e w2 ⟨he2, hb2⟩
          rw [HJN.out] at he2
          subst he2
          have hb3 := below_le hb1 hb2
          clear C2
          go_wp2_with (first
            | (go_at_call 42; (with_reducible refine (KT1.out _ (by assumption)).mono ?_); rintro e w' ⟨rfl, hb⟩)
            | (go_at_call 42; (with_reducible refine (KT2.out _ (by assumption)).mono ?_); rintro e w' ⟨rfl, hb⟩)
            | (go_at_call 40; (with_reducible refine (KL1.out _ (by assumption)).mono ?_); rintro e w' ⟨rfl, hb⟩)
            | (go_at_call 40; (with_reducible refine (KL2.out _ (by assumption)).mono ?_); rintro e w' ⟨rfl, hb⟩)
            | (go_at_call 36; (with_reducible refine (KC.out _ (by assumption)).mono ?_); rintro e w' ⟨rfl, hb⟩)
            | (go_at_call 28; (with_reducible refine (KN.out _ (by assumption)).mono ?_); rintro e w' ⟨rfl, hb⟩)
            | (go_at_call 30; (with_reducible refine (HPA.out _ (by assumption)).mono ?_); rintro e w' ⟨rfl, hb⟩)
            | (go_at_call 30; (with_reducible refine (HPB.out _ (by assumption)).mono ?_); rintro e w' ⟨rfl, hb⟩)
            | (go_at_call 16; (with_reducible refine (KA.out _ (by assumption)).mono ?_); rintro e w' ⟨rfl, hb⟩))
          go_ret
          exact ⟨rfl, by assumption⟩
        · go_enter Tryd.func13, Tryd.ntmps13
          go_wp2_with fail
          refine (HSP.out hp1 _).mono ?_
          rintro e w1 ⟨A, n, c, L2, rfl, ⟨hR, hn, hn2, hL2, hjn⟩, hb1⟩
          have C2 := HJ.out w1 A n c L2 hn hn2 hL2 hR
          have HJN := Lib.hid hjn
          clear hR hn hn2 hL2 hjn
          go_wp2_with fail
          refine C2.mono ?_
          rintro e w2 ⟨he2, hb2⟩
          rw [HJN.out] at he2
          subst he2
          have hb3 := below_le hb1 hb2
          clear C2
          go_wp2_with (first
            | (go_at_call 42; (with_reducible refine (KT1.out _ (by assumption)).mono ?_); rintro e w' ⟨rfl, hb⟩)
            | (go_at_call 42; (with_reducible refine (KT2.out _ (by assumption)).mono ?_); rintro e w' ⟨rfl, hb⟩)
            | (go_at_call 40; (with_reducible refine (KL1.out _ (by assumption)).mono ?_); rintro e w' ⟨rfl, hb⟩)
            | (go_at_call 40; (with_reducible refine (KL2.out _ (by assumption)).mono ?_); rintro e w' ⟨rfl, hb⟩)
            | (go_at_call 36; (with_reducible refine (KC.out _ (by assumption)).mono ?_); rintro e w' ⟨rfl, hb⟩)
            | (go_at_call 28; (with_reducible refine (KN.out _ (by assumption)).mono ?_); rintro e w' ⟨rfl, hb⟩)
            | (go_at_call 30; (with_reducible refine (HPA.out _ (by assumption)).mono ?_); rintro e w' ⟨rfl, hb⟩)
            | (go_at_call 30; (with_reducible refine (HPB.out _ (by assumption)).mono ?_); rintro e w' ⟨rfl, hb⟩)
            | (go_at_call 16; (with_reducible refine (KA.out _ (by assumption)).mono ?_); rintro e w' ⟨rfl, hb⟩))
          go_ret
          exact ⟨rfl, by assumption⟩
        · have hsum := HP12.out h1 h2
          have hsz3 : p1.size + p2.size ≤ 9223372036854775807 := by
            rw [← ByteArray.size_append, hsum]; omega
          have hsum2 : ((p1 ++ p2).toList == s.toList) = true := by rw [hsum]; simp
          clear hsum
          go_enter Tryd.func13, Tryd.ntmps13
          go_wp2_with fail
          refine (HSP.out hp1 _).mono ?_
          rintro e w1 ⟨A, n, c, L2, rfl, ⟨hR, hn, hn2, hL2, hjn⟩, hb1⟩
          have C2 := HJ.out w1 A n c L2 hn hn2 hL2 hR
          have HJN := Lib.hid hjn
          clear hR hn hn2 hL2 hjn
          go_wp2_with fail
          refine C2.mono ?_
          rintro e w2 ⟨he2, hb2⟩
          rw [HJN.out] at he2
          subst he2
          have hb3 := below_le hb1 hb2
          clear C2
          go_wp2_with (first
            | (go_at_call 42; (with_reducible refine (KT1.out _ (by assumption)).mono ?_); rintro e w' ⟨rfl, hb⟩)
            | (go_at_call 42; (with_reducible refine (KT2.out _ (by assumption)).mono ?_); rintro e w' ⟨rfl, hb⟩)
            | (go_at_call 40; (with_reducible refine (KL1.out _ (by assumption)).mono ?_); rintro e w' ⟨rfl, hb⟩)
            | (go_at_call 40; (with_reducible refine (KL2.out _ (by assumption)).mono ?_); rintro e w' ⟨rfl, hb⟩)
            | (go_at_call 36; (with_reducible refine (KC.out _ (by assumption)).mono ?_); rintro e w' ⟨rfl, hb⟩)
            | (go_at_call 28; (with_reducible refine (KN.out _ (by assumption)).mono ?_); rintro e w' ⟨rfl, hb⟩)
            | (go_at_call 30; (with_reducible refine (HPA.out _ (by assumption)).mono ?_); rintro e w' ⟨rfl, hb⟩)
            | (go_at_call 30; (with_reducible refine (HPB.out _ (by assumption)).mono ?_); rintro e w' ⟨rfl, hb⟩)
            | (go_at_call 16; (with_reducible refine (KA.out _ (by assumption)).mono ?_); rintro e w' ⟨rfl, hb⟩))
          go_ret
          exact ⟨rfl, by assumption⟩
end Go.Proofs.YthnkidncjkhndaaDoor
