/-
  Merged texts (ZzI, Ep, Esc, Pa, ZzE, ZzF, Enc, St, Ta, Tb, Tc, Td, Te, Tf, Tg, Th, Ti, Tj, Tk, Tl, Tm, Tn, Tp, Tr, Ts, Tq, Nz, Ni, Mb).
-/
import Derived.Test.YtmimeejjaneedaaGreatDoorQld
import Derived.Lib.RuneBytes
import Derived.Laws.AppendOwnNone
open Go.RowKit
set_option maxRecDepth 100000
set_option maxHeartbeats 40000000
namespace Go.Proofs.YtmimeejjaneedaaGreatDoor
section
theorem Dp {c : Nat} (hc : c ≠ 0) (L : List Nat) (j : Nat) (t : ByteArray) (ht : wdL t = [c]) : (wdL t).isPrefixOf (L.drop j) = (hd0 (L.drop j) == c) := by
 rw [ht]; exact Aac hc _
theorem Jp {a b : Nat} (ha : a ≠ 0) (hb : b ≠ 0) (L : List Nat) (j : Nat) (t : ByteArray) (ht : wdL t = [a, b]) : (wdL t).isPrefixOf (L.drop j) = (hd0 (L.drop j) == a && hd0 (L.drop (j + 1)) == b) := by
 rw [ht]
 rcases hd : L.drop j with _ | ⟨c, r⟩
 ·show false = (((0 : Nat) == a) && _)
  cases h : ((0 : Nat) == a)
  ·rfl
  ·exact absurd (beq_iff_eq.1 h).symm ha
 ·have h1 : L.drop (j + 1) = r := by rw [← List.tail_drop, hd]; rfl
  rw [h1]
  show (a == c && [b].isPrefixOf r) = (c == a && _)
  rw [Aac hb]
  congr 1
  rw [Bool.eq_iff_iff, beq_iff_eq, beq_iff_eq]
  exact ⟨Eq.symm, Eq.symm⟩
theorem Um (s : ByteArray) (k : Nat) (w : World) (hs : s.size ≤ 140737488355328) (hk : k ≤ ln s) (hx : hxA ((us s).drop k) = true) :
  Cp 77 #[.string s, .int .i64 k] w fun e w' => e = .returned (.int .i64 ((k + Dx ((us s).drop k) : Nat) : Int)) ∧ ∃ n, w' = w.drewN n := by
 have hs63 : s.size ≤ maxLen := by unfold maxLen; omega
 have hln := Ap s
 have hll : (ln s : Int) ≤ 70368744177664 := by omega
 have HLL := Lh hll
 have HKL : Hid (k ≤ (us s).length) := Lh (by rw [Ab]; exact hk)
 have CI := Lh (fun (j : Nat) (hj : j ≤ ln s) (t : ByteArray) (ht : t.size ≤ 8) W => Ib s t j W hs (by omega) ht)
 have CA := Lh (fun (j : Nat) W => Ce s j W hs63)
 have CD := Lh (fun (u : Nat) W => Bn u W)
 have CL := Lh (fun W => Cw s W hs63)
 have CX := Lh (fun (u : Nat) W => Nw u W)
 obtain ⟨R, hR⟩ : ∃ R, k + Dx ((us s).drop k) = R := ⟨_, rfl⟩
 have HR := Lh hR
 obtain ⟨c0, hc0⟩ : ∃ c, hd0 ((us s).drop k) = c := ⟨_, rfl⟩
 obtain ⟨d0, hd0'⟩ : ∃ c, hd0 ((us s).drop (k + 1)) = c := ⟨_, rfl⟩
 have C1 := fun W => CI.out k hk ⟨#[48, 120]⟩ (by decide) W
 have C2 := fun W => CI.out k hk ⟨#[48, 88]⟩ (by decide) W
 rw [Jp (a := 48) (b := 120) (by omega) (by omega) _ _ _ rfl, hc0, hd0'] at C1
 rw [Jp (a := 48) (b := 88) (by omega) (by omega) _ _ _ rfl, hc0, hd0'] at C2
 have hP := Ag1 hx
 rw [hR] at hP
 rw [Iv, hc0, hd0'] at hx
 have h48 : c0 = 48 := by
  rw [Bool.and_eq_true] at hx
  simpa using hx.1
 have hxX : d0 = 120 ∨ d0 = 88 := by
  rw [Bool.and_eq_true] at hx
  simpa using hx.2
 have hk2 : k + 2 ≤ ln s := by
  have := Cn (L := us s) (j := k + 1) (c := d0) (by omega) hd0'
  rw [Ab] at this
  exact this
 have HP : Hid (k + 2 + (((us s).drop (k + 2)).takeWhile Bh).length = R) := Lh hP.symm
 rw [hR]
 subst h48
 have hkl : (k : Int) ≤ 70368744177664 := by omega
 clear hs hs63 hx hc0 hd0' hR hP hln hll HR CD
 rcases hxX with rfl | rfl
 all_goals
  have C1 := Lh C1
  have C2 := Lh C2
  go_enter Tryz.func77, Tryz.ntmps77
  go_wp2_with fail
  refine Dm (C1.out _) fun n1 => ?_
  go_wp2_with fail
  try (with_reducible refine (C2.out _).mono ?_; rintro e w' ⟨rfl, n2, rfl⟩)
  go_wp2
  go_loopw [1] (fun av wr => ∃ a : Nat, av = .int .i64 a ∧ a ≤ ln s ∧ Hid (a + (((us s).drop a).takeWhile Bh).length = R) ∧ ∃ m, wr = w.drewN m) (fun av _ => ln s - (intOf av).toNat)
  case atStart => exact ⟨k + 2, by go_num, hk2, HP, _, rfl⟩
  case round =>
   obtain ⟨a, rfl, ha, HA, n0, rfl⟩ := hrel
   have hal : (a : Int) ≤ 70368744177664 := by have := HLL.out; omega
   have hn := Gt Bh (by decide) (us s) a
   have hz := Akb ((us s).drop a)
   have C3 := CA.out a
   obtain ⟨u, hu⟩ : ∃ u, zU ((us s).drop a) = u := ⟨_, rfl⟩
   rw [hu] at C3 hz
   have C4 := CX.out u
   obtain ⟨y, hy⟩ : ∃ y, hxI u = y := ⟨_, rfl⟩
   rw [hy] at C4 hz
   have hA := HA.out
   have C3 := Lh C3
   have C4 := Lh C4
   cases hh : Bh (hd0 ((us s).drop a))
   ·rw [hh, if_neg (by simp)] at hn
    rw [hh] at hz
    have g : ¬ ((y : Int) < 16) := by have := of_decide_eq_false hz; omega
    obtain rfl : a = R := by omega
    rcases Nat.lt_or_ge a (ln s) with hlt | hge
    ·have t1 : (a : Int) < (ln s : Int) := by omega
     clear hn hz hu hy hh hA HA HP
     go_wp2_with fail
     refine Sm (CL.out _) ?_
     go_wp2_with fail
     refine Dm (C3.out _) fun n3 => ?_
     go_wp2_with fail
     refine Sm (C4.out _) ?_
     go_wp2
     go_ret
     exact ⟨rfl, n0 + n3, by first | rfl | simp⟩
    ·have t1 : ¬ (a : Int) < (ln s : Int) := by omega
     clear hn hz hu hy hh hA HA HP
     go_wp2_with fail
     refine Sm (CL.out _) ?_
     go_wp2
     go_ret
     exact ⟨rfl, n0, by first | rfl | simp⟩
   ·have hlt : a + 1 ≤ ln s := by
     have := Cn (L := us s) (j := a) (c := hd0 ((us s).drop a)) (by intro h0; rw [h0] at hh; revert hh; decide) rfl
     rw [Ab] at this
     exact this
    rw [hh, if_pos rfl] at hn
    rw [hh] at hz
    have g : ((y : Int) < 16) := by have := of_decide_eq_true hz; omega
    have HA2 : Hid (a + 1 + (((us s).drop (a + 1)).takeWhile Bh).length = R) := Lh (by omega)
    have t1 : (a : Int) < (ln s : Int) := by omega
    clear hn hz hu hy hh hA HA HP
    go_wp2_with fail
    refine Sm (CL.out _) ?_
    go_wp2_with fail
    refine Dm (C3.out _) fun n3 => ?_
    go_wp2_with fail
    refine Sm (C4.out _) ?_
    go_wp2
    go_roundw
    case rel => exact ⟨a + 1, by go_num, hlt, HA2, n0 + n3, by first | rfl | simp⟩
    case measure => simp [intOf]; omega
theorem Ue (s : ByteArray) (k : Nat) (w : World) (hs : s.size ≤ 140737488355328) (hk : k ≤ ln s) (hx : hxA ((us s).drop k) = false) :
  Cp 77 #[.string s, .int .i64 k] w fun e w' => e = .returned (.int .i64 ((k + Dx ((us s).drop k) : Nat) : Int)) ∧ ∃ n, w' = w.drewN n := by
 have hs63 : s.size ≤ maxLen := by unfold maxLen; omega
 have hln := Ap s
 have hll : (ln s : Int) ≤ 70368744177664 := by omega
 have HLL := Lh hll
 have HKL : Hid (k ≤ (us s).length) := Lh (by rw [Ab]; exact hk)
 have CI := Lh (fun (j : Nat) (hj : j ≤ ln s) (t : ByteArray) (ht : t.size ≤ 8) W => Ib s t j W hs (by omega) ht)
 have CA := Lh (fun (j : Nat) W => Ce s j W hs63)
 have CD := Lh (fun (u : Nat) W => Bn u W)
 have CL := Lh (fun W => Cw s W hs63)
 have CX := Lh (fun (u : Nat) W => Nw u W)
 obtain ⟨R, hR⟩ : ∃ R, k + Dx ((us s).drop k) = R := ⟨_, rfl⟩
 have HR := Lh hR
 obtain ⟨c0, hc0⟩ : ∃ c, hd0 ((us s).drop k) = c := ⟨_, rfl⟩
 obtain ⟨d0, hd0'⟩ : ∃ c, hd0 ((us s).drop (k + 1)) = c := ⟨_, rfl⟩
 have C1 := fun W => CI.out k hk ⟨#[48, 120]⟩ (by decide) W
 have C2 := fun W => CI.out k hk ⟨#[48, 88]⟩ (by decide) W
 rw [Jp (a := 48) (b := 120) (by omega) (by omega) _ _ _ rfl, hc0, hd0'] at C1
 rw [Jp (a := 48) (b := 88) (by omega) (by omega) _ _ _ rfl, hc0, hd0'] at C2
 have HX := Lh hx
 rw [Iv, hc0, hd0'] at hx
 have e1 : (c0 == 48 && d0 == 120) = false := by
  cases h1 : (c0 == 48)
  ·rfl
  ·rw [h1, Bool.true_and, Bool.or_eq_false_iff] at hx; exact hx.1
 have e2 : (c0 == 48 && d0 == 88) = false := by
  cases h1 : (c0 == 48)
  ·rfl
  ·rw [h1, Bool.true_and, Bool.or_eq_false_iff] at hx; exact hx.2
 rw [e1] at C1
 rw [e2] at C2
 rw [hR]
 have C1 := Lh C1
 have C2 := Lh C2
 obtain ⟨p1, hp1⟩ : ∃ p1, k + (((us s).drop k).takeWhile Ah).length = p1 := ⟨_, rfl⟩
 obtain ⟨hb1, hnd, hdt⟩ := Sc HKL.out hp1
 rw [Ab] at hb1
 have HND := Lh hnd
 have HDT := Lh hdt
 have HB1 := Lh hb1
 have HP := Lh hp1
 have hkl : (k : Int) ≤ 70368744177664 := by omega
 have HK := Lh hk
 clear hs hs63 hx e1 e2 hc0 hd0' hR hln hll CX hnd hdt hp1 hb1 hk
 go_enter Tryz.func77, Tryz.ntmps77
 go_wp2_with fail
 refine Dm (C1.out _) fun n1 => ?_
 go_wp2_with fail
 refine Dm (C2.out _) fun n2 => ?_
 go_wp2
 go_loopw [1] (fun av wr => ∃ a : Nat, av = .int .i64 a ∧ a ≤ ln s ∧ Hid (a + (((us s).drop a).takeWhile Ah).length = p1) ∧ ∃ m, wr = w.drewN m) (fun av _ => ln s - (intOf av).toNat)
 case atStart => exact ⟨k, by go_num, HK.out, HP, _, rfl⟩
 case round =>
  obtain ⟨a1, rfl, ha1, HA, m1, rfl⟩ := hrel
  have hal1 : (a1 : Int) ≤ 70368744177664 := by have := HLL.out; omega
  have hn := Gt Ah (by decide) (us s) a1
  have hz := Jl ((us s).drop a1)
  have C3 := CA.out a1
  obtain ⟨u, hu⟩ : ∃ u, zU ((us s).drop a1) = u := ⟨_, rfl⟩
  rw [hu] at C3 hz
  have C4 := CD.out u
  rw [hz] at C4
  have hA := HA.out
  have C3 := Lh C3
  cases hh : Ah (hd0 ((us s).drop a1))
  rotate_left 1
  ·have hlt : a1 + 1 ≤ ln s := by
    have := Rp hh
    rw [Ab] at this
    exact this
   rw [hh, if_pos rfl] at hn
   rw [hh] at C4
   have C4 := Lh C4
   have HA2 : Hid (a1 + 1 + (((us s).drop (a1 + 1)).takeWhile Ah).length = p1) := Lh (by omega)
   clear hn hz hu hh hA HA
   go_wp2_with fail
   refine Dm (C3.out _) fun n3 => ?_
   go_wp2_with fail
   refine Sm (C4.out _) ?_
   go_wp2
   go_roundw
   case rel => exact ⟨a1 + 1, by go_num, hlt, HA2, _, rfl⟩
   case measure => simp [intOf]; omega
  ·rw [hh, if_neg (by simp)] at hn
   rw [hh] at C4
   have C4 := Lh C4
   obtain rfl : a1 = p1 := by omega
   clear hn hz hu hh hA HA
   go_wp2_with fail
   refine Dm (C3.out _) fun n3 => ?_
   go_wp2_with fail
   refine Sm (C4.out _) ?_
   have CO := fun W => CI.out a1 HB1.out ⟨#[46]⟩ (by decide) W
   rw [Dp (c := 46) (by omega) _ _ _ rfl] at CO
   by_cases h46 : hd0 ((us s).drop a1) = 46
   rotate_left 1
   ·have g1 : (hd0 ((us s).drop a1) == 46) = false := by rw [beq_eq_false_iff_ne]; exact h46
    rw [g1] at CO
    have CO := Lh CO
    have HT2 := Lh (HND.out h46)
    have HB2 := HB1
    clear g1 h46 HND HDT HP
    go_wp2_with fail
    refine Dm (CO.out _) fun n4 => ?_
    have HEX := Lh (To HKL.out HX.out HT2.out (by rw [Ab]; exact HB2.out))
    have CE := fun W => CI.out a1 HB2.out ⟨#[101]⟩ (by decide) W
    have CF := fun W => CI.out a1 HB2.out ⟨#[69]⟩ (by decide) W
    rw [Dp (c := 101) (by omega) _ _ _ rfl] at CE
    rw [Dp (c := 69) (by omega) _ _ _ rfl] at CF
    obtain ⟨c, hc⟩ : ∃ c, hd0 ((us s).drop a1) = c := ⟨_, rfl⟩
    rw [hc] at CE CF
    have HC := Lh hc
    clear hc
    by_cases hE : c = 101 ∨ c = 69
    rotate_left 1
    ·rw [show (c == 101) = false by rw [beq_eq_false_iff_ne]; omega] at CE
     rw [show (c == 69) = false by rw [beq_eq_false_iff_ne]; omega] at CF
     have CE := Lh CE
     have CF := Lh CF
     obtain rfl : a1 = R := by
      have := HEX.out.1 (by rw [HC.out]; exact hE)
      rw [HR.out] at this
      exact this.symm
     clear HEX HC hE
     go_wp2_with fail
     refine Dm (CE.out _) fun n5 => ?_
     go_wp2_with fail
     refine Dm (CF.out _) fun n6 => ?_
     go_wp2
     go_ret
     exact ⟨rfl, _, rfl⟩
    have HE1 := Lh (HEX.out.2 (by rw [HC.out]; exact hE))
    rw [Ab] at HE1
    have CP := fun W => CI.out (a1 + 1) HE1.out.1 ⟨#[43]⟩ (by decide) W
    have CM := fun W => CI.out (a1 + 1) HE1.out.1 ⟨#[45]⟩ (by decide) W
    rw [Dp (c := 43) (by omega) _ _ _ rfl] at CP
    rw [Dp (c := 45) (by omega) _ _ _ rfl] at CM
    obtain ⟨d, hd⟩ : ∃ d, hd0 ((us s).drop (a1 + 1)) = d := ⟨_, rfl⟩
    rw [hd, show ((a1 + 1 : Nat) : Int) = (a1 : Int) + 1 from rfl] at CP CM
    obtain ⟨q, f, hqf, hq⟩ : ∃ q : Nat, ∃ f : Int, (q : Int) = f ∧ ((d = 43 ∧ f = (a1 : Int) + 1 + 1 ∧ q = a1 + 2) ∨ (d = 45 ∧ f = (a1 : Int) + 1 + 1 ∧ q = a1 + 2) ∨ ((d == 43) = false ∧ (d == 45) = false ∧ f = (a1 : Int) + 1 ∧ q = a1 + 1)) := by
     by_cases h43 : d = 43
     ·exact ⟨a1 + 2, _, by omega, .inl ⟨h43, rfl, rfl⟩⟩
     ·by_cases h45 : d = 45
      ·exact ⟨a1 + 2, _, by omega, .inr (.inl ⟨h45, rfl, rfl⟩)⟩
      ·exact ⟨a1 + 1, _, by omega, .inr (.inr ⟨by rw [beq_eq_false_iff_ne]; exact h43, by rw [beq_eq_false_iff_ne]; exact h45, rfl, rfl⟩)⟩
    have HQI := Lh hqf
    have HQ := HE1.out.2 q (by
     rw [hd]
     rcases hq with ⟨h, _, h2⟩ | ⟨h, _, h2⟩ | ⟨h, h3, _, h2⟩
     ·exact .inr ⟨h2, .inl h⟩
     ·exact .inr ⟨h2, .inr h⟩
     ·rw [beq_eq_false_iff_ne] at h h3; exact .inl ⟨h2, by omega⟩)
    obtain ⟨hql, hQ2⟩ := HQ
    rw [HR.out] at hQ2
    have HQL := Lh hql
    have C5 := fun W => CA.out q W
    have hz := Jl ((us s).drop q)
    obtain ⟨u, hu⟩ : ∃ u, zU ((us s).drop q) = u := ⟨_, rfl⟩
    rw [hu] at C5 hz
    rw [hqf] at C5
    have C6 := CD.out u
    rw [hz] at C6
    have hw : (Ah (hd0 ((us s).drop q)) = true ∧ q + (((us s).drop q).takeWhile Ah).length = R) ∨ (Ah (hd0 ((us s).drop q)) = false ∧ a1 = R) := by
     cases hh : Ah (hd0 ((us s).drop q))
     ·rw [hh, if_neg (by simp)] at hQ2; exact .inr ⟨rfl, hQ2.symm⟩
     ·rw [hh, if_pos rfl] at hQ2; exact .inl ⟨rfl, hQ2.symm⟩
    clear HEX hql hQ2 hz hu hqf HE1 HC hd
    rcases hw with ⟨hh, hQ3⟩ | ⟨hh, rfl⟩
    ·rw [hh] at C6
     have C6 := Lh C6
     have HQ3 := Lh hQ3
     clear hh hQ3
     rcases hE with rfl | rfl <;> rcases hq with ⟨rfl, rfl, _⟩ | ⟨rfl, rfl, _⟩ | ⟨h43, h45, rfl, _⟩
     all_goals
      first | rw [h43] at CP | skip
      first | rw [h45] at CM | skip
      have CE := Lh CE
      have CF := Lh CF
      have CP := Lh CP
      have CM := Lh CM
      have C5 := Lh C5
      go_wp2_with fail
      refine Dm (CE.out _) fun n5 => ?_
      go_wp2_with fail
      try (with_reducible refine (CF.out _).mono ?_; rintro e w' ⟨rfl, n6, rfl⟩; go_wp2_with fail)
      with_reducible refine Dm (CP.out _) fun n7 => ?_
      go_wp2_with fail
      try (with_reducible refine (CM.out _).mono ?_; rintro e w' ⟨rfl, n8, rfl⟩; go_wp2_with fail)
      with_reducible refine Dm (C5.out _) fun n9 => ?_
      go_wp2_with fail
      refine Sm (C6.out _) ?_
      go_wp2
      go_loopw [1] (fun av wr => ∃ a : Nat, av = .int .i64 a ∧ a ≤ ln s ∧ Hid (a + (((us s).drop a).takeWhile Ah).length = R) ∧ ∃ m, wr = w.drewN m) (fun av _ => ln s - (intOf av).toNat)
      case atStart => exact ⟨q, by rw [HQI.out], HQL.out, HQ3, _, rfl⟩
      case round =>
       obtain ⟨a9, rfl, ha9, HA, m9, rfl⟩ := hrel
       have hal9 : (a9 : Int) ≤ 70368744177664 := by have := HLL.out; omega
       have hn := Gt Ah (by decide) (us s) a9
       have hz := Jl ((us s).drop a9)
       have C3 := CA.out a9
       obtain ⟨u, hu⟩ : ∃ u, zU ((us s).drop a9) = u := ⟨_, rfl⟩
       rw [hu] at C3 hz
       have C4 := CD.out u
       rw [hz] at C4
       have hA := HA.out
       have C3 := Lh C3
       cases hh : Ah (hd0 ((us s).drop a9))
       rotate_left 1
       ·have hlt : a9 + 1 ≤ ln s := by
         have := Rp hh
         rw [Ab] at this
         exact this
        rw [hh, if_pos rfl] at hn
        rw [hh] at C4
        have C4 := Lh C4
        have HA2 : Hid (a9 + 1 + (((us s).drop (a9 + 1)).takeWhile Ah).length = R) := Lh (by omega)
        clear hn hz hu hh hA HA
        go_wp2_with fail
        refine Dm (C3.out _) fun n3 => ?_
        go_wp2_with fail
        refine Sm (C4.out _) ?_
        go_wp2
        go_roundw
        case rel => exact ⟨a9 + 1, by go_num, hlt, HA2, _, rfl⟩
        case measure => simp [intOf]; omega
       ·rw [hh, if_neg (by simp)] at hn
        rw [hh] at C4
        have C4 := Lh C4
        obtain rfl : a9 = R := by omega
        clear hn hz hu hh hA HA
        go_wp2_with fail
        refine Dm (C3.out _) fun n3 => ?_
        go_wp2_with fail
        refine Sm (C4.out _) ?_
        go_wp2
        go_ret
        exact ⟨rfl, _, rfl⟩
    ·rw [hh] at C6
     have C6 := Lh C6
     clear hh
     rcases hE with rfl | rfl <;> rcases hq with ⟨rfl, rfl, _⟩ | ⟨rfl, rfl, _⟩ | ⟨h43, h45, rfl, _⟩
     all_goals
      first | rw [h43] at CP | skip
      first | rw [h45] at CM | skip
      have CE := Lh CE
      have CF := Lh CF
      have CP := Lh CP
      have CM := Lh CM
      have C5 := Lh C5
      go_wp2_with fail
      refine Dm (CE.out _) fun n5 => ?_
      go_wp2_with fail
      try (with_reducible refine (CF.out _).mono ?_; rintro e w' ⟨rfl, n6, rfl⟩; go_wp2_with fail)
      with_reducible refine Dm (CP.out _) fun n7 => ?_
      go_wp2_with fail
      try (with_reducible refine (CM.out _).mono ?_; rintro e w' ⟨rfl, n8, rfl⟩; go_wp2_with fail)
      with_reducible refine Dm (C5.out _) fun n9 => ?_
      go_wp2_with fail
      refine Sm (C6.out _) ?_
      go_wp2
      go_ret
      exact ⟨rfl, _, rfl⟩
   ·have g1 : (hd0 ((us s).drop a1) == 46) = true := by rw [h46]; rfl
    rw [g1] at CO
    have CO := Lh CO
    obtain ⟨hD1, hD2, hD3⟩ := HDT.out h46
    rw [Ab] at hD1 hD3
    obtain ⟨p2, hp2⟩ : ∃ p2, a1 + 1 + (((us s).drop (a1 + 1)).takeWhile Ah).length = p2 := ⟨_, rfl⟩
    rw [hp2] at hD2 hD3
    have HT2 := Lh hD2
    have HB2 := Lh hD3
    have HD1 := Lh hD1
    have HP2 := Lh hp2
    clear g1 h46 HND HDT HP hD1 hD2 hD3 hp2
    go_wp2_with fail
    refine Dm (CO.out _) fun n4 => ?_
    go_wp2
    go_loopw [1] (fun av wr => ∃ a : Nat, av = .int .i64 a ∧ a ≤ ln s ∧ Hid (a + (((us s).drop a).takeWhile Ah).length = p2) ∧ ∃ m, wr = w.drewN m) (fun av _ => ln s - (intOf av).toNat)
    case atStart => exact ⟨a1 + 1, by go_num, HD1.out, HP2, _, rfl⟩
    case round =>
     obtain ⟨a2, rfl, ha2, HA, m2, rfl⟩ := hrel
     have hal2 : (a2 : Int) ≤ 70368744177664 := by have := HLL.out; omega
     have hn := Gt Ah (by decide) (us s) a2
     have hz := Jl ((us s).drop a2)
     have C3 := CA.out a2
     obtain ⟨u, hu⟩ : ∃ u, zU ((us s).drop a2) = u := ⟨_, rfl⟩
     rw [hu] at C3 hz
     have C4 := CD.out u
     rw [hz] at C4
     have hA := HA.out
     have C3 := Lh C3
     cases hh : Ah (hd0 ((us s).drop a2))
     rotate_left 1
     ·have hlt : a2 + 1 ≤ ln s := by
       have := Rp hh
       rw [Ab] at this
       exact this
      rw [hh, if_pos rfl] at hn
      rw [hh] at C4
      have C4 := Lh C4
      have HA2 : Hid (a2 + 1 + (((us s).drop (a2 + 1)).takeWhile Ah).length = p2) := Lh (by omega)
      clear hn hz hu hh hA HA
      go_wp2_with fail
      refine Dm (C3.out _) fun n3 => ?_
      go_wp2_with fail
      refine Sm (C4.out _) ?_
      go_wp2
      go_roundw
      case rel => exact ⟨a2 + 1, by go_num, hlt, HA2, _, rfl⟩
      case measure => simp [intOf]; omega
     ·rw [hh, if_neg (by simp)] at hn
      rw [hh] at C4
      have C4 := Lh C4
      obtain rfl : a2 = p2 := by omega
      clear hn hz hu hh hA HA
      go_wp2_with fail
      refine Dm (C3.out _) fun n3 => ?_
      go_wp2_with fail
      refine Sm (C4.out _) ?_
      have HEX := Lh (To HKL.out HX.out HT2.out (by rw [Ab]; exact HB2.out))
      have CE := fun W => CI.out a2 HB2.out ⟨#[101]⟩ (by decide) W
      have CF := fun W => CI.out a2 HB2.out ⟨#[69]⟩ (by decide) W
      rw [Dp (c := 101) (by omega) _ _ _ rfl] at CE
      rw [Dp (c := 69) (by omega) _ _ _ rfl] at CF
      obtain ⟨c, hc⟩ : ∃ c, hd0 ((us s).drop a2) = c := ⟨_, rfl⟩
      rw [hc] at CE CF
      have HC := Lh hc
      clear hc
      by_cases hE : c = 101 ∨ c = 69
      rotate_left 1
      ·rw [show (c == 101) = false by rw [beq_eq_false_iff_ne]; omega] at CE
       rw [show (c == 69) = false by rw [beq_eq_false_iff_ne]; omega] at CF
       have CE := Lh CE
       have CF := Lh CF
       obtain rfl : a2 = R := by
        have := HEX.out.1 (by rw [HC.out]; exact hE)
        rw [HR.out] at this
        exact this.symm
       clear HEX HC hE
       go_wp2_with fail
       refine Dm (CE.out _) fun n5 => ?_
       go_wp2_with fail
       refine Dm (CF.out _) fun n6 => ?_
       go_wp2
       go_ret
       exact ⟨rfl, _, rfl⟩
      have HE1 := Lh (HEX.out.2 (by rw [HC.out]; exact hE))
      rw [Ab] at HE1
      have CP := fun W => CI.out (a2 + 1) HE1.out.1 ⟨#[43]⟩ (by decide) W
      have CM := fun W => CI.out (a2 + 1) HE1.out.1 ⟨#[45]⟩ (by decide) W
      rw [Dp (c := 43) (by omega) _ _ _ rfl] at CP
      rw [Dp (c := 45) (by omega) _ _ _ rfl] at CM
      obtain ⟨d, hd⟩ : ∃ d, hd0 ((us s).drop (a2 + 1)) = d := ⟨_, rfl⟩
      rw [hd, show ((a2 + 1 : Nat) : Int) = (a2 : Int) + 1 from rfl] at CP CM
      obtain ⟨q, f, hqf, hq⟩ : ∃ q : Nat, ∃ f : Int, (q : Int) = f ∧ ((d = 43 ∧ f = (a2 : Int) + 1 + 1 ∧ q = a2 + 2) ∨ (d = 45 ∧ f = (a2 : Int) + 1 + 1 ∧ q = a2 + 2) ∨ ((d == 43) = false ∧ (d == 45) = false ∧ f = (a2 : Int) + 1 ∧ q = a2 + 1)) := by
       by_cases h43 : d = 43
       ·exact ⟨a2 + 2, _, by omega, .inl ⟨h43, rfl, rfl⟩⟩
       ·by_cases h45 : d = 45
        ·exact ⟨a2 + 2, _, by omega, .inr (.inl ⟨h45, rfl, rfl⟩)⟩
        ·exact ⟨a2 + 1, _, by omega, .inr (.inr ⟨by rw [beq_eq_false_iff_ne]; exact h43, by rw [beq_eq_false_iff_ne]; exact h45, rfl, rfl⟩)⟩
      have HQI := Lh hqf
      have HQ := HE1.out.2 q (by
       rw [hd]
       rcases hq with ⟨h, _, h2⟩ | ⟨h, _, h2⟩ | ⟨h, h3, _, h2⟩
       ·exact .inr ⟨h2, .inl h⟩
       ·exact .inr ⟨h2, .inr h⟩
       ·rw [beq_eq_false_iff_ne] at h h3; exact .inl ⟨h2, by omega⟩)
      obtain ⟨hql, hQ2⟩ := HQ
      rw [HR.out] at hQ2
      have HQL := Lh hql
      have C5 := fun W => CA.out q W
      have hz := Jl ((us s).drop q)
      obtain ⟨u, hu⟩ : ∃ u, zU ((us s).drop q) = u := ⟨_, rfl⟩
      rw [hu] at C5 hz
      rw [hqf] at C5
      have C6 := CD.out u
      rw [hz] at C6
      have hw : (Ah (hd0 ((us s).drop q)) = true ∧ q + (((us s).drop q).takeWhile Ah).length = R) ∨ (Ah (hd0 ((us s).drop q)) = false ∧ a2 = R) := by
       cases hh : Ah (hd0 ((us s).drop q))
       ·rw [hh, if_neg (by simp)] at hQ2; exact .inr ⟨rfl, hQ2.symm⟩
       ·rw [hh, if_pos rfl] at hQ2; exact .inl ⟨rfl, hQ2.symm⟩
      clear HEX hql hQ2 hz hu hqf HE1 HC hd
      rcases hw with ⟨hh, hQ3⟩ | ⟨hh, rfl⟩
      ·rw [hh] at C6
       have C6 := Lh C6
       have HQ3 := Lh hQ3
       clear hh hQ3
       rcases hE with rfl | rfl <;> rcases hq with ⟨rfl, rfl, _⟩ | ⟨rfl, rfl, _⟩ | ⟨h43, h45, rfl, _⟩
       all_goals
        first | rw [h43] at CP | skip
        first | rw [h45] at CM | skip
        have CE := Lh CE
        have CF := Lh CF
        have CP := Lh CP
        have CM := Lh CM
        have C5 := Lh C5
        go_wp2_with fail
        refine Dm (CE.out _) fun n5 => ?_
        go_wp2_with fail
        try (with_reducible refine (CF.out _).mono ?_; rintro e w' ⟨rfl, n6, rfl⟩; go_wp2_with fail)
        with_reducible refine Dm (CP.out _) fun n7 => ?_
        go_wp2_with fail
        try (with_reducible refine (CM.out _).mono ?_; rintro e w' ⟨rfl, n8, rfl⟩; go_wp2_with fail)
        with_reducible refine Dm (C5.out _) fun n9 => ?_
        go_wp2_with fail
        refine Sm (C6.out _) ?_
        go_wp2
        go_loopw [1] (fun av wr => ∃ a : Nat, av = .int .i64 a ∧ a ≤ ln s ∧ Hid (a + (((us s).drop a).takeWhile Ah).length = R) ∧ ∃ m, wr = w.drewN m) (fun av _ => ln s - (intOf av).toNat)
        case atStart => exact ⟨q, by rw [HQI.out], HQL.out, HQ3, _, rfl⟩
        case round =>
         obtain ⟨a9, rfl, ha9, HA, m9, rfl⟩ := hrel
         have hal9 : (a9 : Int) ≤ 70368744177664 := by have := HLL.out; omega
         have hn := Gt Ah (by decide) (us s) a9
         have hz := Jl ((us s).drop a9)
         have C3 := CA.out a9
         obtain ⟨u, hu⟩ : ∃ u, zU ((us s).drop a9) = u := ⟨_, rfl⟩
         rw [hu] at C3 hz
         have C4 := CD.out u
         rw [hz] at C4
         have hA := HA.out
         have C3 := Lh C3
         cases hh : Ah (hd0 ((us s).drop a9))
         rotate_left 1
         ·have hlt : a9 + 1 ≤ ln s := by
           have := Rp hh
           rw [Ab] at this
           exact this
          rw [hh, if_pos rfl] at hn
          rw [hh] at C4
          have C4 := Lh C4
          have HA2 : Hid (a9 + 1 + (((us s).drop (a9 + 1)).takeWhile Ah).length = R) := Lh (by omega)
          clear hn hz hu hh hA HA
          go_wp2_with fail
          refine Dm (C3.out _) fun n3 => ?_
          go_wp2_with fail
          refine Sm (C4.out _) ?_
          go_wp2
          go_roundw
          case rel => exact ⟨a9 + 1, by go_num, hlt, HA2, _, rfl⟩
          case measure => simp [intOf]; omega
         ·rw [hh, if_neg (by simp)] at hn
          rw [hh] at C4
          have C4 := Lh C4
          obtain rfl : a9 = R := by omega
          clear hn hz hu hh hA HA
          go_wp2_with fail
          refine Dm (C3.out _) fun n3 => ?_
          go_wp2_with fail
          refine Sm (C4.out _) ?_
          go_wp2
          go_ret
          exact ⟨rfl, _, rfl⟩
      ·rw [hh] at C6
       have C6 := Lh C6
       clear hh
       rcases hE with rfl | rfl <;> rcases hq with ⟨rfl, rfl, _⟩ | ⟨rfl, rfl, _⟩ | ⟨h43, h45, rfl, _⟩
       all_goals
        first | rw [h43] at CP | skip
        first | rw [h45] at CM | skip
        have CE := Lh CE
        have CF := Lh CF
        have CP := Lh CP
        have CM := Lh CM
        have C5 := Lh C5
        go_wp2_with fail
        refine Dm (CE.out _) fun n5 => ?_
        go_wp2_with fail
        try (with_reducible refine (CF.out _).mono ?_; rintro e w' ⟨rfl, n6, rfl⟩; go_wp2_with fail)
        with_reducible refine Dm (CP.out _) fun n7 => ?_
        go_wp2_with fail
        try (with_reducible refine (CM.out _).mono ?_; rintro e w' ⟨rfl, n8, rfl⟩; go_wp2_with fail)
        with_reducible refine Dm (C5.out _) fun n9 => ?_
        go_wp2_with fail
        refine Sm (C6.out _) ?_
        go_wp2
        go_ret
        exact ⟨rfl, _, rfl⟩
theorem Vf (s : ByteArray) (k : Nat) (w : World) (hs : s.size ≤ 140737488355328) (hk : k ≤ ln s) :
  Cp 77 #[.string s, .int .i64 k] w fun e w' => e = .returned (.int .i64 ((k + Dx ((us s).drop k) : Nat) : Int)) ∧ ∃ n, w' = w.drewN n := by
 cases hx : hxA ((us s).drop k)
 ·exact Ue s k w hs hk hx
 ·exact Um s k w hs hk hx

end
section
def hx (k : Nat) : UInt8 := if k < 10 then UInt8.ofNat (48 + k) else UInt8.ofNat (55 + k)
def esc (u : Nat) : List UInt8 := [92, 117, hx (u / 4096), hx (u / 256 % 16), hx (u / 16 % 16), hx (u % 16)]
def hiB (u : Nat) : Bool := decide (55296 ≤ u) && decide (u < 56320)
def loB (u : Nat) : Bool := decide (56320 ≤ u) && decide (u < 57344)
def prB (s : ByteArray) (i : Nat) : Bool := decide (i + 1 < ln s) && (hiB (un s i) && loB (un s (i + 1)))
def prP (s : ByteArray) (i : Nat) : Nat := 65536 + (un s i - 55296) * 1024 + (un s (i + 1) - 56320)
def Wx (u : Nat) : List UInt8 := if hiB u || loB u then esc u else Lib.encodeRune u
def Hm (s : ByteArray) : Nat → Nat → List UInt8
 | 0, _ => []
 | f + 1, i => if i < ln s then (if prB s i = true then Lib.encodeRune (prP s i) ++ Hm s f (i + 2) else Wx (un s i) ++ Hm s f (i + 1)) else []
def J2 (s : ByteArray) : List UInt8 := Hm s (ln s) 0
theorem Ts (s : ByteArray) (f i : Nat) (h : ¬ i < ln s) : Hm s f i = [] := by cases f <;> simp [Hm, h]
theorem Qm (s : ByteArray) (f i : Nat) (h : i < ln s) (hp : prB s i = true) : Hm s (f + 1) i = Lib.encodeRune (prP s i) ++ Hm s f (i + 2) := by simp [Hm, h, hp]
theorem Np (s : ByteArray) (f i : Nat) (h : i < ln s) (hp : prB s i = false) : Hm s (f + 1) i = Wx (un s i) ++ Hm s f (i + 1) := by simp [Hm, h, hp]
theorem Pu (s : ByteArray) (i : Nat) (h : prB s i = true) : i + 1 < ln s ∧ 55296 ≤ un s i ∧ un s i < 56320 ∧ 56320 ≤ un s (i + 1) ∧ un s (i + 1) < 57344 := by
 simp [prB, hiB, loB] at h
 omega
theorem Ac0 (r : Int) : (Lib.encodeRune r).length ≤ 4 := by
 have := Lib.runeCells_le r
 rw [Lib.runeCells_length] at this
 omega
theorem Aey (u : Nat) (hu : u < 65536) : u &&& 64512 = u / 1024 * 1024 := by
 have h : u &&& 64512 = (u >>> 10) <<< 10 := by
  apply Nat.eq_of_testBit_eq
  intro i
  rw [Nat.testBit_and, Nat.testBit_shiftLeft, Nat.testBit_shiftRight, show 64512 = (2 ^ 6 - 1) <<< 10 from rfl, Nat.testBit_shiftLeft, Nat.testBit_two_pow_sub_one]
  by_cases h1 : 10 ≤ i
  ·rw [show 10 + (i - 10) = i by omega]
   by_cases h2 : i - 10 < 6
   ·simp [h1, h2]
   ·have : u.testBit i = false := Nat.testBit_lt_two_pow (Nat.lt_of_lt_of_le hu (by
     have : 2 ^ 16 ≤ 2 ^ i := Nat.pow_le_pow_right (by omega) (by omega)
     simpa using this))
    simp [this]
  ·simp [h1]
 rw [h, Nat.shiftLeft_eq, Nat.shiftRight_eq_div_pow]


end
section
theorem Agi (u : Nat) (hu : u < 65536) : bits BinOp.and IntKind.u16 (u : Int) 64512 = ((u / 1024 * 1024 : Nat) : Int) := by
 rw [show (64512 : Int) = ((64512 : Nat) : Int) from rfl, u16_and_nat _ _ hu (by omega), Aey u hu]
theorem Rw (u : Nat) (hu : u < 65536) : bits BinOp.and IntKind.u16 (u : Int) 15 = ((u % 16 : Nat) : Int) := by
 rw [show (15 : Int) = ((15 : Nat) : Int) from rfl, u16_and_nat _ _ hu (by omega), show (15 : Nat) = 2 ^ 4 - 1 from rfl, Nat.and_two_pow_sub_one_eq_mod u 4]
abbrev digs : ByteArray := { data := #[48, 49, 50, 51, 52, 53, 54, 55, 56, 57, 65, 66, 67, 68, 69, 70] }
theorem Ahn : ∀ k : Fin 16, (digs[k.val]'k.isLt).toNat = (hx k.val).toNat := by decide
theorem T9 (u : Nat) (hu : u < 65536) : ((bits BinOp.and IntKind.u16 (u : Int) 64512) == 55296) = hiB u := by
 rw [Agi u hu, Bool.eq_iff_iff]
 simp [hiB]
 omega
theorem Ty (u : Nat) (hu : u < 65536) : ((bits BinOp.and IntKind.u16 (u : Int) 64512) == 56320) = loB u := by
 rw [Agi u hu, Bool.eq_iff_iff]
 simp [loB]
 omega
theorem Agz (s : ByteArray) (i : Nat) (w : World) (h : i < ln s) (hs : s.size ≤ maxLen) :
  Cp 87 #[.string s, .int .i64 i] w fun e w' => e = .returned (.bool (prB s i)) ∧ ∃ n, w' = w.drewN n := by
 have hl := Ap s
 have hm : ((ln s : Nat) : Int) ≤ 4611686018427387903 := by unfold maxLen at hs; omega
 have hi : (i : Int) < (ln s : Int) := by omega
 have t1 := T9 (un s i) (Pw s i)
 have t2 := Ty (un s (i + 1)) (Pw s (i + 1))
 have HS := Lh hs
 clear hs hl
 by_cases h1 : i + 1 < ln s
 ·have h1' : (i : Int) + 1 < (ln s : Int) := by omega
  have e1 : ((i : Int) + 1) = ((i + 1 : Nat) : Int) := by omega
  cases hA : hiB (un s i)
  ·rw [hA] at t1
   have HR := Lh (show prB s i = false by simp [prB, hA])
   clear hA t2 e1
   go_enter Tryz.func87, Tryz.ntmps87
   go_wp2_with (first | (go_at_call 34; refine (Cr s _ HS.out).mono ?_; rintro e w' ⟨rfl, rfl⟩) | (go_at_call 85; refine (I8 s i _ h HS.out).mono ?_; rintro e w' ⟨rfl, n, rfl⟩))
   go_ret
   exact ⟨by rw [HR.out]; rfl, n, rfl⟩
  ·rw [hA] at t1
   have HR := Lh (show prB s i = loB (un s (i + 1)) by simp [prB, hA, h1])
   have c2 : ∀ w, Cp 85 #[.string s, .int .i64 ((i : Int) + 1)] w fun e w' => e = .returned (.int .u16 (un s (i + 1))) ∧ ∃ n, w' = w.drewN n := fun w => by
    rw [e1]; exact I8 s (i + 1) w h1 HS.out
   clear hA e1
   go_enter Tryz.func87, Tryz.ntmps87
   go_wp2_with fail
   refine Sm (Cr s _ HS.out) ?_
   go_wp2_with fail
   refine Dm (I8 s i _ h HS.out) fun n => ?_
   go_wp2_with fail
   refine Dm (c2 _) fun n2 => ?_
   go_wp2
   go_ret
   exact ⟨by rw [HR.out]; rfl, n + n2, rfl⟩
 ·have h1' : ¬ ((i : Int) + 1 < (ln s : Int)) := by omega
  have HR := Lh (show prB s i = false by simp [prB, h1])
  clear t1 t2
  go_enter Tryz.func87, Tryz.ntmps87
  go_wp2_with (first | (go_at_call 34; refine (Cr s _ HS.out).mono ?_; rintro e w' ⟨rfl, rfl⟩))
  go_ret
  exact ⟨by rw [HR.out]; rfl, 0, rfl⟩
theorem Ab6 (l : List UInt8) (c : UInt8) : Lib.byteCells (l ++ [c]) = Lib.byteCells l ++ [Value.int .u8 c.toNat] := by
 rw [Lib.byteCells_append]; rfl
theorem Ad0 (x : Nat) (h : (((x : Int) % 16).toNat) < digs.size) : ((digs[((x : Int) % 16).toNat]'h).toNat : Int) = ((hx (x % 16)).toNat : Int) := by
 have e : ((x : Int) % 16).toNat = x % 16 := by omega
 have := Ahn ⟨x % 16, Nat.mod_lt _ (by omega)⟩
 simp only [e]
 exact congrArg Nat.cast this
theorem Jk (B : Nat) (l : List UInt8) (x : Nat) (w : World) (h : Bld B l w) (hlen : l.length + 1 ≤ 140737488355328) (hBw : B ≤ w.heap.size) (hk : (((x : Int) % 16).toNat) < digs.size) :
  Cp 121 #[.pointer (some ⟨B, 0, none⟩), .int .u8 ((digs[((x : Int) % 16).toNat]'hk).toNat)] w fun e w' => e = .returned .nilIface ∧ Bld B (l ++ [hx (x % 16)]) w' ∧ Below B w w' := by
 rw [Ad0 x hk]
 refine (Tryz.Builder_WriteByte_k B B _ _ _ h (by rw [Lib.byteCells_length]; omega) hBw).mono ?_
 rintro e w' ⟨rfl, hb, bl, _⟩
 exact ⟨rfl, by rw [Bld, Ab6]; exact .inr hb, bl⟩
def Ajw (B : Nat) (l : List UInt8) (u : Nat) (w : World) (sh : Value) (wr : World) : Prop :=
 (sh = .int .i64 12 ∧ Bld B (l ++ [92, 117]) wr ∧ Below B w wr) ∨
 (sh = .int .i64 8 ∧ Bld B (l ++ [92, 117] ++ [hx (u / 4096 % 16)]) wr ∧ Below B w wr) ∨
 (sh = .int .i64 4 ∧ Bld B (l ++ [92, 117] ++ [hx (u / 4096 % 16)] ++ [hx (u / 256 % 16)]) wr ∧ Below B w wr) ∨
 (sh = .int .i64 0 ∧ Bld B (l ++ [92, 117] ++ [hx (u / 4096 % 16)] ++ [hx (u / 256 % 16)] ++ [hx (u / 16 % 16)]) wr ∧ Below B w wr) ∨
 (sh = .int .i64 (-4) ∧ Bld B (l ++ [92, 117] ++ [hx (u / 4096 % 16)] ++ [hx (u / 256 % 16)] ++ [hx (u / 16 % 16)] ++ [hx (u % 16)]) wr ∧ Below B w wr)
theorem L6 (B : Nat) (l : List UInt8) (u : Nat) (hu : u < 65536) (w : World) (h : Bld B l w) (hlen : l.length + 6 ≤ 140737488355328) (hBw : B ≤ w.heap.size) :
  Cp 88 #[.pointer (some ⟨B, 0, none⟩), .int .u16 u] w fun e w' => e = .returned (.tuple #[]) ∧ Bld B (l ++ esc u) w' ∧ Below B w w' := by
 have hs := Tryz.Builder_WriteString_k B B (Lib.byteCells l) { data := #[92, 117] } w h (by rw [Lib.byteCells_length]; show l.length + 2 ≤ _; omega) hBw
 have a1 : bits BinOp.and IntKind.u16 ((u : Int) / 4096) 15 = ((u : Int) / 4096) % 16 := Rw (u / 4096) (by omega)
 have a2 : bits BinOp.and IntKind.u16 ((u : Int) / 256) 15 = ((u : Int) / 256) % 16 := Rw (u / 256) (by omega)
 have a3 : bits BinOp.and IntKind.u16 ((u : Int) / 16) 15 = ((u : Int) / 16) % 16 := Rw (u / 16) (by omega)
 have a4 : bits BinOp.and IntKind.u16 (u : Int) 15 = (u : Int) % 16 := Rw u hu
 have H1 := Lh hu
 have H2 := Lh hlen
 clear hu hlen
 go_enter Tryz.func88, Tryz.ntmps88
 go_wp2_with fail
 refine hs.mono ?_
 rintro e w1 ⟨rfl, hb1, bl1, _⟩
 have hI1 : Bld B (l ++ [92, 117]) w1 := by rw [Bld, Lib.byteCells_append]; exact .inr hb1
 clear hs hb1
 go_wp2
 go_loopw [4] (fun sh wr => Ajw B l u w sh wr) (fun sh _ => (intOf sh + 4).toNat)
 case atStart => exact .inl ⟨rfl, hI1, bl1⟩
 case round =>
  rcases hrel with ⟨rfl, hI, hb⟩ | ⟨rfl, hI, hb⟩ | ⟨rfl, hI, hb⟩ | ⟨rfl, hI, hb⟩ | ⟨rfl, hI, hb⟩
  ·go_wp2_with (go_at_call 121; refine (Jk B _ (u / 4096) _ hI (by have := H2.out; simp; omega) (Nat.le_trans hBw hb.size) _).mono ?_; rintro e w2 ⟨rfl, hI2, hb2⟩)
   go_roundw
   case rel => exact .inr (.inl ⟨rfl, hI2, hb.trans hb2⟩)
   case measure => simp [intOf]
  ·go_wp2_with (go_at_call 121; refine (Jk B _ (u / 256) _ hI (by have := H2.out; simp; omega) (Nat.le_trans hBw hb.size) _).mono ?_; rintro e w2 ⟨rfl, hI2, hb2⟩)
   go_roundw
   case rel => exact .inr (.inr (.inl ⟨rfl, hI2, hb.trans hb2⟩))
   case measure => simp [intOf]
  ·go_wp2_with (go_at_call 121; refine (Jk B _ (u / 16) _ hI (by have := H2.out; simp; omega) (Nat.le_trans hBw hb.size) _).mono ?_; rintro e w2 ⟨rfl, hI2, hb2⟩)
   go_roundw
   case rel => exact .inr (.inr (.inr (.inl ⟨rfl, hI2, hb.trans hb2⟩)))
   case measure => simp [intOf]
  ·go_wp2_with (go_at_call 121; refine (Jk B _ u _ hI (by have := H2.out; simp; omega) (Nat.le_trans hBw hb.size) _).mono ?_; rintro e w2 ⟨rfl, hI2, hb2⟩)
   go_roundw
   case rel => exact .inr (.inr (.inr (.inr ⟨rfl, hI2, hb.trans hb2⟩)))
   case measure => simp [intOf]
  ·have he : l ++ esc u = l ++ [92, 117] ++ [hx (u / 4096 % 16)] ++ [hx (u / 256 % 16)] ++ [hx (u / 16 % 16)] ++ [hx (u % 16)] := by
    have := H1.out
    simp [esc, show u / 4096 % 16 = u / 4096 by omega]
   have HE := Lh he
   clear he
   go_wp2
   go_end0
   exact ⟨rfl, by rw [HE.out]; exact hI, hb⟩


end
section
theorem Vk (w : World) (cs : List Value) (t : TypeId) : ∀ j u, cs[j]? = some u → (w.alloc (.cells cs.toArray t)).cell? (Addr.add ⟨w.heap.size, 0, none⟩ j) = some u := by
 intro j u h
 have h2 := heap_alloc_last w (.cells cs.toArray t)
 have e : Addr.add ⟨w.heap.size, 0, none⟩ j = ⟨w.heap.size, j, none⟩ := by
  unfold Addr.add
  by_cases hj : j = 0 <;> simp [hj]
 rw [e]
 unfold World.cell?
 simp only []
 rw [h2]
 simpa using h
end
section
def LitV (B : Nat) (l : List Nat) (v : Value) (w : World) : Prop :=
 (l = [] ∧ v = .slice none 0 0) ∨ ∃ x g, l = [x] ∧ v = .slice (some ⟨g, 0, none⟩) 1 1 ∧ w.cell? ⟨g, 0, none⟩ = some (.int .u16 (x : Nat)) ∧ B ≤ g ∧ g < w.heap.size
def Vj (k : Nat) (o : Option (List Nat × Nat)) (w : World) (e : Ending) (w' : World) : Prop :=
 (match o with
  | none => ∃ v' a, e = .returned (.tuple #[v', .int .i64 a, .bool false])
  | some p => ∃ v', e = .returned (.tuple #[v', .int .i64 ((k + p.2 : Nat) : Int), .bool true]) ∧ LitV w.heap.size p.1 v' w') ∧ Below w.heap.size w w'
theorem LitV.new (w wr : World) (x : Nat) (h : w.heap.size ≤ wr.heap.size) : LitV w.heap.size [x] (.slice (some ⟨wr.heap.size, 0, none⟩) 1 1) (wr.alloc (.cells #[.int .u16 (x : Nat)] 52)) :=
 .inr ⟨x, wr.heap.size, rfl, rfl, by simp, h, by simp⟩
theorem LitV.draw {B : Nat} {l : List Nat} {v : Value} {w : World} (h : LitV B l v w) (n : Nat) : LitV B l v (w.drewN n) := h
theorem Dj (w : World) (n : Nat) (o : Obj) : Below w.heap.size w ((w.drewN n).alloc o) := (Ac (Below.refl _ _) n).alloc (by simp) _
theorem U6 (s : ByteArray) (k c : Nat) (w : World) (hs : s.size ≤ 140737488355328) (hk : k < ln s) (hc : hd0 ((us s).drop k) = c) (x : Nat) (h : (c = 98 ∧ x = 8) ∨ (c = 116 ∧ x = 9) ∨ (c = 110 ∧ x = 10) ∨ (c = 118 ∧ x = 11) ∨ (c = 102 ∧ x = 12) ∨ (c = 114 ∧ x = 13)) :
  Cp 118 #[.string s, .int .i64 k] w fun e w' => Vj k (some ([x], 1)) w e w' := by
 have hs63 : s.size ≤ maxLen := by unfold maxLen; omega
 have hln := Ap s
 have hne : ((us s).drop k).isEmpty = false := by
  rw [List.isEmpty_eq_false_iff, Ne, List.drop_eq_nil_iff, Ab]
  omega
 have C1 := fun W => Bz s k W hs63
 rw [hc, hne] at C1
 have C1 := Lh (show ∀ W, Cp 48 #[.string s, .int .i64 k] W fun e w' => e = .returned (.tuple #[.int .u16 (c : Nat), .bool true]) ∧ ∃ n, w' = W.drewN n from C1)
 have hkl : (k : Int) ≤ 140737488355327 := by omega
 have CA := Lh (show ∀ W, Cp 45 #[.string s, .int .i64 ((k : Int) + 1)] W fun e w' => e = .returned (.int .u16 ((zU ((us s).drop (k + 1)) : Nat) : Int)) ∧ ∃ n, w' = W.drewN n from fun W => Ce s (k + 1) W hs63)
 have CH := Lh (show ∀ n : Nat, n ≤ 4 → ∀ W, Cp 111 #[.string s, .int .i64 ((k : Int) + 1), .int .i64 n] W fun e w' => e = Fe (Bu 0 n ((us s).drop (k + 1))) ∧ ∃ m, w' = W.drewN m from fun n hn W => Dv s (k + 1) n W hs (by omega) hn)
 have CD := Lh (fun u W => Bn u W)
 have CE := Lh (fun c W => Dh c W)
 clear hs hs63 hln hne hk hc CA CH CD CE
 rcases h with ⟨rfl, rfl⟩ | ⟨rfl, rfl⟩ | ⟨rfl, rfl⟩ | ⟨rfl, rfl⟩ | ⟨rfl, rfl⟩ | ⟨rfl, rfl⟩
 all_goals
  go_enter Tryz.func118, Tryz.ntmps118
  go_wp2_with fail
  refine Dm (C1.out _) fun n1 => ?_
  go_wp2
  go_ret3
  exact ⟨⟨_, rfl, LitV.new w (w.drewN n1) _ (by simp)⟩, Dj w n1 _⟩
theorem Qz (s : ByteArray) (k c : Nat) (w : World) (hs : s.size ≤ 140737488355328) (hk : k < ln s) (hc : hd0 ((us s).drop k) = c) (h : c = 48) :
  Cp 118 #[.string s, .int .i64 k] w fun e w' => Vj k (if Ah (hd0 ((us s).drop (k + 1))) = true then none else some ([0], 1)) w e w' := by
 have hs63 : s.size ≤ maxLen := by unfold maxLen; omega
 have hln := Ap s
 have hne : ((us s).drop k).isEmpty = false := by
  rw [List.isEmpty_eq_false_iff, Ne, List.drop_eq_nil_iff, Ab]
  omega
 have C1 := fun W => Bz s k W hs63
 rw [hc, hne] at C1
 have C1 := Lh (show ∀ W, Cp 48 #[.string s, .int .i64 k] W fun e w' => e = .returned (.tuple #[.int .u16 (c : Nat), .bool true]) ∧ ∃ n, w' = W.drewN n from C1)
 have hkl : (k : Int) ≤ 140737488355327 := by omega
 have CA := Lh (show ∀ W, Cp 45 #[.string s, .int .i64 ((k : Int) + 1)] W fun e w' => e = .returned (.int .u16 ((zU ((us s).drop (k + 1)) : Nat) : Int)) ∧ ∃ n, w' = W.drewN n from fun W => Ce s (k + 1) W hs63)
 have CH := Lh (show ∀ n : Nat, n ≤ 4 → ∀ W, Cp 111 #[.string s, .int .i64 ((k : Int) + 1), .int .i64 n] W fun e w' => e = Fe (Bu 0 n ((us s).drop (k + 1))) ∧ ∃ m, w' = W.drewN m from fun n hn W => Dv s (k + 1) n W hs (by omega) hn)
 have CD := Lh (fun u W => Bn u W)
 have CE := Lh (fun c W => Dh c W)
 subst h
 obtain ⟨u, hu⟩ : ∃ u, zU ((us s).drop (k + 1)) = u := ⟨_, rfl⟩
 have hz := Jl ((us s).drop (k + 1))
 rw [hu] at hz
 have CA := CA.out
 rw [hu] at CA
 have CA := Lh CA
 have C4 := CD.out u
 rw [← hz]
 cases hd : Ah u
 ·rw [hd] at C4
  have C4 := Lh C4
  rw [if_neg (by simp)]
  clear hs hs63 hln hne hk hc CH CD CE hd hz hu
  go_enter Tryz.func118, Tryz.ntmps118
  go_wp2_with fail
  refine Dm (C1.out _) fun n1 => ?_
  go_wp2_with fail
  refine Dm (CA.out _) fun n2 => ?_
  go_wp2_with fail
  refine Sm (C4.out _) ?_
  go_wp2
  go_ret3
  exact ⟨⟨_, rfl, (LitV.new w (w.drewN n1) _ (by simp)).draw n2⟩, Ac (Dj w n1 _) n2⟩
 ·rw [hd] at C4
  have C4 := Lh C4
  rw [if_pos rfl]
  clear hs hs63 hln hne hk hc CH CD CE hd hz hu
  go_enter Tryz.func118, Tryz.ntmps118
  go_wp2_with fail
  refine Dm (C1.out _) fun n1 => ?_
  go_wp2_with fail
  refine Dm (CA.out _) fun n2 => ?_
  go_wp2_with fail
  refine Sm (C4.out _) ?_
  go_wp2
  go_ret3
  exact ⟨⟨_, _, rfl⟩, Ac (Dj w n1 _) n2⟩
theorem Abn (s : ByteArray) (k c : Nat) (w : World) (hs : s.size ≤ 140737488355328) (hk : k < ln s) (hc : hd0 ((us s).drop k) = c) (h : c = 120) :
  Cp 118 #[.string s, .int .i64 k] w fun e w' => Vj k ((Bu 0 2 ((us s).drop (k + 1))).map fun v => ([v], 3)) w e w' := by
 have hs63 : s.size ≤ maxLen := by unfold maxLen; omega
 have hln := Ap s
 have hne : ((us s).drop k).isEmpty = false := by
  rw [List.isEmpty_eq_false_iff, Ne, List.drop_eq_nil_iff, Ab]
  omega
 have C1 := fun W => Bz s k W hs63
 rw [hc, hne] at C1
 have C1 := Lh (show ∀ W, Cp 48 #[.string s, .int .i64 k] W fun e w' => e = .returned (.tuple #[.int .u16 (c : Nat), .bool true]) ∧ ∃ n, w' = W.drewN n from C1)
 have hkl : (k : Int) ≤ 140737488355327 := by omega
 have CA := Lh (show ∀ W, Cp 45 #[.string s, .int .i64 ((k : Int) + 1)] W fun e w' => e = .returned (.int .u16 ((zU ((us s).drop (k + 1)) : Nat) : Int)) ∧ ∃ n, w' = W.drewN n from fun W => Ce s (k + 1) W hs63)
 have CH := Lh (show ∀ n : Nat, n ≤ 4 → ∀ W, Cp 111 #[.string s, .int .i64 ((k : Int) + 1), .int .i64 n] W fun e w' => e = Fe (Bu 0 n ((us s).drop (k + 1))) ∧ ∃ m, w' = W.drewN m from fun n hn W => Dv s (k + 1) n W hs (by omega) hn)
 have CD := Lh (fun u W => Bn u W)
 have CE := Lh (fun c W => Dh c W)
 subst h
 have C2 := CH.out 2 (by omega)
 obtain ⟨o, ho⟩ : ∃ o, Bu 0 2 ((us s).drop (k + 1)) = o := ⟨_, rfl⟩
 rw [ho] at C2 ⊢
 clear hs hs63 hln hne hk hc CH CD CE CA ho
 cases o with
 | none =>
  have C2 := Lh (show ∀ W, Cp 111 #[.string s, .int .i64 ((k : Int) + 1), .int .i64 2] W fun e w' => e = .returned (.tuple #[.int .u16 0, .bool false]) ∧ ∃ m, w' = W.drewN m from C2)
  go_enter Tryz.func118, Tryz.ntmps118
  go_wp2_with fail
  refine Dm (C1.out _) fun n1 => ?_
  go_wp2_with fail
  refine Dm (C2.out _) fun n2 => ?_
  go_wp2
  go_ret3
  exact ⟨⟨_, _, rfl⟩, Dj w (n1 + n2) _⟩
 | some x =>
  have C2 := Lh (show ∀ W, Cp 111 #[.string s, .int .i64 ((k : Int) + 1), .int .i64 2] W fun e w' => e = .returned (.tuple #[.int .u16 (x : Nat), .bool true]) ∧ ∃ m, w' = W.drewN m from C2)
  go_enter Tryz.func118, Tryz.ntmps118
  go_wp2_with fail
  refine Dm (C1.out _) fun n1 => ?_
  go_wp2_with fail
  refine Dm (C2.out _) fun n2 => ?_
  go_wp2
  go_ret3
  exact ⟨⟨_, rfl, LitV.new w (w.drewN (n1 + n2)) _ (by simp)⟩, Dj w (n1 + n2) _⟩
theorem Aa6 (s : ByteArray) (k c : Nat) (w : World) (hs : s.size ≤ 140737488355328) (hk : k < ln s) (hc : hd0 ((us s).drop k) = c) (h : c = 117) :
  Cp 118 #[.string s, .int .i64 k] w fun e w' => Vj k ((Bu 0 4 ((us s).drop (k + 1))).map fun v => ([v], 5)) w e w' := by
 have hs63 : s.size ≤ maxLen := by unfold maxLen; omega
 have hln := Ap s
 have hne : ((us s).drop k).isEmpty = false := by
  rw [List.isEmpty_eq_false_iff, Ne, List.drop_eq_nil_iff, Ab]
  omega
 have C1 := fun W => Bz s k W hs63
 rw [hc, hne] at C1
 have C1 := Lh (show ∀ W, Cp 48 #[.string s, .int .i64 k] W fun e w' => e = .returned (.tuple #[.int .u16 (c : Nat), .bool true]) ∧ ∃ n, w' = W.drewN n from C1)
 have hkl : (k : Int) ≤ 140737488355327 := by omega
 have CA := Lh (show ∀ W, Cp 45 #[.string s, .int .i64 ((k : Int) + 1)] W fun e w' => e = .returned (.int .u16 ((zU ((us s).drop (k + 1)) : Nat) : Int)) ∧ ∃ n, w' = W.drewN n from fun W => Ce s (k + 1) W hs63)
 have CH := Lh (show ∀ n : Nat, n ≤ 4 → ∀ W, Cp 111 #[.string s, .int .i64 ((k : Int) + 1), .int .i64 n] W fun e w' => e = Fe (Bu 0 n ((us s).drop (k + 1))) ∧ ∃ m, w' = W.drewN m from fun n hn W => Dv s (k + 1) n W hs (by omega) hn)
 have CD := Lh (fun u W => Bn u W)
 have CE := Lh (fun c W => Dh c W)
 subst h
 have C2 := CH.out 4 (by omega)
 obtain ⟨o, ho⟩ : ∃ o, Bu 0 4 ((us s).drop (k + 1)) = o := ⟨_, rfl⟩
 rw [ho] at C2 ⊢
 clear hs hs63 hln hne hk hc CH CD CE CA ho
 cases o with
 | none =>
  have C2 := Lh (show ∀ W, Cp 111 #[.string s, .int .i64 ((k : Int) + 1), .int .i64 4] W fun e w' => e = .returned (.tuple #[.int .u16 0, .bool false]) ∧ ∃ m, w' = W.drewN m from C2)
  go_enter Tryz.func118, Tryz.ntmps118
  go_wp2_with fail
  refine Dm (C1.out _) fun n1 => ?_
  go_wp2_with fail
  refine Dm (C2.out _) fun n2 => ?_
  go_wp2
  go_ret3
  exact ⟨⟨_, _, rfl⟩, Dj w (n1 + n2) _⟩
 | some x =>
  have C2 := Lh (show ∀ W, Cp 111 #[.string s, .int .i64 ((k : Int) + 1), .int .i64 4] W fun e w' => e = .returned (.tuple #[.int .u16 (x : Nat), .bool true]) ∧ ∃ m, w' = W.drewN m from C2)
  go_enter Tryz.func118, Tryz.ntmps118
  go_wp2_with fail
  refine Dm (C1.out _) fun n1 => ?_
  go_wp2_with fail
  refine Dm (C2.out _) fun n2 => ?_
  go_wp2
  go_ret3
  exact ⟨⟨_, rfl, LitV.new w (w.drewN (n1 + n2)) _ (by simp)⟩, Dj w (n1 + n2) _⟩
theorem Q0 (s : ByteArray) (k c : Nat) (w : World) (hs : s.size ≤ 140737488355328) (hk : k < ln s) (hc : hd0 ((us s).drop k) = c) (he : enN c = true) :
  Cp 118 #[.string s, .int .i64 k] w fun e w' => Vj k (some ([], if c = 13 ∧ hd0 ((us s).drop (k + 1)) = 10 then 2 else 1)) w e w' := by
 have hs63 : s.size ≤ maxLen := by unfold maxLen; omega
 have hln := Ap s
 have hne : ((us s).drop k).isEmpty = false := by
  rw [List.isEmpty_eq_false_iff, Ne, List.drop_eq_nil_iff, Ab]
  omega
 have C1 := fun W => Bz s k W hs63
 rw [hc, hne] at C1
 have C1 := Lh (show ∀ W, Cp 48 #[.string s, .int .i64 k] W fun e w' => e = .returned (.tuple #[.int .u16 (c : Nat), .bool true]) ∧ ∃ n, w' = W.drewN n from C1)
 have hkl : (k : Int) ≤ 140737488355327 := by omega
 have CA := Lh (show ∀ W, Cp 45 #[.string s, .int .i64 ((k : Int) + 1)] W fun e w' => e = .returned (.int .u16 ((zU ((us s).drop (k + 1)) : Nat) : Int)) ∧ ∃ n, w' = W.drewN n from fun W => Ce s (k + 1) W hs63)
 have CH := Lh (show ∀ n : Nat, n ≤ 4 → ∀ W, Cp 111 #[.string s, .int .i64 ((k : Int) + 1), .int .i64 n] W fun e w' => e = Fe (Bu 0 n ((us s).drop (k + 1))) ∧ ∃ m, w' = W.drewN m from fun n hn W => Dv s (k + 1) n W hs (by omega) hn)
 have CD := Lh (fun u W => Bn u W)
 have CE := Lh (fun c W => Dh c W)
 have h4 : c = 10 ∨ c = 13 ∨ c = 8232 ∨ c = 8233 := by
  unfold enN enB at he
  simp at he
  omega
 have C3 := CE.out c
 rw [show enB (c : Int) = true from he] at C3
 have C3 := Lh C3
 by_cases h13 : c = 13
 ·subst h13
  obtain ⟨u, hu⟩ : ∃ u, zU ((us s).drop (k + 1)) = u := ⟨_, rfl⟩
  have CA := CA.out
  rw [hu] at CA
  have CA := Lh CA
  have h10 : hd0 ((us s).drop (k + 1)) = 10 ↔ u = 10 := by
   rw [← hu]
   cases (us s).drop (k + 1) with
   | nil => exact ⟨fun h => absurd h (by decide), fun h => absurd h (by decide)⟩
   | cons a r => exact Iff.rfl
  by_cases hu10 : u = 10
  ·rw [if_pos ⟨rfl, h10.2 hu10⟩]
   subst hu10
   clear hs hs63 hln hne hk hc CH CD CE he h4 h10 hu
   go_enter Tryz.func118, Tryz.ntmps118
   go_wp2_with fail
   refine Dm (C1.out _) fun n1 => ?_
   go_wp2_with fail
   refine Dm (CA.out _) fun n2 => ?_
   go_wp2
   go_ret3
   exact ⟨⟨_, rfl, .inl ⟨rfl, rfl⟩⟩, Ac (Below.refl _ w) (n1 + n2)⟩
  ·rw [if_neg (fun h => hu10 (h10.1 h.2))]
   have g : ((u : Int) == 10) = false := by rw [beq_eq_false_iff_ne]; omega
   clear hs hs63 hln hne hk hc CH CD CE he h4 h10 hu hu10
   go_enter Tryz.func118, Tryz.ntmps118
   go_wp2_with fail
   refine Dm (C1.out _) fun n1 => ?_
   go_wp2_with fail
   refine Dm (CA.out _) fun n2 => ?_
   go_wp2_with fail
   refine Sm (C3.out _) ?_
   go_wp2
   go_ret3
   exact ⟨⟨_, rfl, .inl ⟨rfl, rfl⟩⟩, Ac (Below.refl _ w) (n1 + n2)⟩
 ·rw [if_neg (fun h => h13 h.1)]
  have h3 : c = 10 ∨ c = 8232 ∨ c = 8233 := by omega
  clear hs hs63 hln hne hk hc CH CD CE CA he h4 h13
  rcases h3 with rfl | rfl | rfl
  all_goals
   go_enter Tryz.func118, Tryz.ntmps118
   go_wp2_with fail
   refine Dm (C1.out _) fun n1 => ?_
   go_wp2_with fail
   refine Sm (C3.out _) ?_
   go_wp2
   go_ret3
   exact ⟨⟨_, rfl, .inl ⟨rfl, rfl⟩⟩, Ac (Below.refl _ w) n1⟩
theorem Tb (s : ByteArray) (k c : Nat) (w : World) (hs : s.size ≤ 140737488355328) (hk : k < ln s) (hc : hd0 ((us s).drop k) = c) (h : ¬ (c = 98 ∨ c = 116 ∨ c = 110 ∨ c = 118 ∨ c = 102 ∨ c = 114 ∨ c = 48 ∨ c = 120 ∨ c = 117)) (he : enN c = false) :
  Cp 118 #[.string s, .int .i64 k] w fun e w' => Vj k (if Ah c = true then none else some ([c], 1)) w e w' := by
 have hs63 : s.size ≤ maxLen := by unfold maxLen; omega
 have hln := Ap s
 have hne : ((us s).drop k).isEmpty = false := by
  rw [List.isEmpty_eq_false_iff, Ne, List.drop_eq_nil_iff, Ab]
  omega
 have C1 := fun W => Bz s k W hs63
 rw [hc, hne] at C1
 have C1 := Lh (show ∀ W, Cp 48 #[.string s, .int .i64 k] W fun e w' => e = .returned (.tuple #[.int .u16 (c : Nat), .bool true]) ∧ ∃ n, w' = W.drewN n from C1)
 have hkl : (k : Int) ≤ 140737488355327 := by omega
 have CA := Lh (show ∀ W, Cp 45 #[.string s, .int .i64 ((k : Int) + 1)] W fun e w' => e = .returned (.int .u16 ((zU ((us s).drop (k + 1)) : Nat) : Int)) ∧ ∃ n, w' = W.drewN n from fun W => Ce s (k + 1) W hs63)
 have CH := Lh (show ∀ n : Nat, n ≤ 4 → ∀ W, Cp 111 #[.string s, .int .i64 ((k : Int) + 1), .int .i64 n] W fun e w' => e = Fe (Bu 0 n ((us s).drop (k + 1))) ∧ ∃ m, w' = W.drewN m from fun n hn W => Dv s (k + 1) n W hs (by omega) hn)
 have CD := Lh (fun u W => Bn u W)
 have CE := Lh (fun c W => Dh c W)
 have C3 := CE.out c
 rw [show enB (c : Int) = false from he] at C3
 have C3 := Lh C3
 have C4 := CD.out c
 have hc13 : c ≠ 13 := by rintro rfl; revert he; decide
 have g1 : ((c : Int) == 98) = false := by rw [beq_eq_false_iff_ne]; omega
 have g2 : ((c : Int) == 116) = false := by rw [beq_eq_false_iff_ne]; omega
 have g3 : ((c : Int) == 110) = false := by rw [beq_eq_false_iff_ne]; omega
 have g4 : ((c : Int) == 118) = false := by rw [beq_eq_false_iff_ne]; omega
 have g5 : ((c : Int) == 102) = false := by rw [beq_eq_false_iff_ne]; omega
 have g6 : ((c : Int) == 114) = false := by rw [beq_eq_false_iff_ne]; omega
 have g7 : ((c : Int) == 48) = false := by rw [beq_eq_false_iff_ne]; omega
 have g8 : ((c : Int) == 120) = false := by rw [beq_eq_false_iff_ne]; omega
 have g9 : ((c : Int) == 117) = false := by rw [beq_eq_false_iff_ne]; omega
 have g10 : ((c : Int) == 13) = false := by rw [beq_eq_false_iff_ne]; omega
 cases hd : Ah c
 ·rw [hd] at C4
  have C4 := Lh C4
  rw [if_neg (by simp)]
  clear hs hs63 hln hne hk hc CH CD CE CA hd h he hc13
  go_enter Tryz.func118, Tryz.ntmps118
  go_wp2_with fail
  refine Dm (C1.out _) fun n1 => ?_
  go_wp2_with fail
  refine Sm (C3.out _) ?_
  go_wp2_with fail
  refine Sm (C4.out _) ?_
  go_wp2
  go_ret3
  exact ⟨⟨_, rfl, LitV.new w (w.drewN n1) _ (by simp)⟩, Dj w n1 _⟩
 ·rw [hd] at C4
  have C4 := Lh C4
  rw [if_pos rfl]
  clear hs hs63 hln hne hk hc CH CD CE CA hd h he hc13
  go_enter Tryz.func118, Tryz.ntmps118
  go_wp2_with fail
  refine Dm (C1.out _) fun n1 => ?_
  go_wp2_with fail
  refine Sm (C3.out _) ?_
  go_wp2_with fail
  refine Sm (C4.out _) ?_
  go_wp2
  go_ret3
  exact ⟨⟨_, _, rfl⟩, Dj w n1 _⟩
theorem Uw (s : ByteArray) (k : Nat) (w : World) (hs : s.size ≤ 140737488355328) (hk : k = ln s) :
  Cp 118 #[.string s, .int .i64 k] w fun e w' => Vj k none w e w' := by
 have hs63 : s.size ≤ maxLen := by unfold maxLen; omega
 have C1 := fun W => Bz s k W hs63
 rw [List.drop_eq_nil_iff.2 (by rw [Ab]; omega)] at C1
 have C1 := Lh (show ∀ W, Cp 48 #[.string s, .int .i64 k] W fun e w' => e = .returned (.tuple #[.int .u16 0, .bool false]) ∧ ∃ n, w' = W.drewN n from C1)
 clear hs hs63 hk
 go_enter Tryz.func118, Tryz.ntmps118
 go_wp2_with fail
 refine Dm (C1.out _) fun n1 => ?_
 go_wp2
 go_ret3
 exact ⟨⟨_, _, rfl⟩, Ac (Below.refl _ w) n1⟩
theorem Vq (s : ByteArray) (k : Nat) (w : World) (hs : s.size ≤ 140737488355328) (hk : k ≤ ln s) :
  Cp 118 #[.string s, .int .i64 k] w fun e w' => Vj k (Hn ((us s).drop k)) w e w' := by
 rcases Nat.lt_or_ge k (ln s) with hlt | hge
 ·obtain ⟨c, h1, h2⟩ := Bw (L := us s) (k := k) (by rw [Ab]; exact hlt)
  have hall := fun hl => U6 s k c w hs hlt h2 (Od c) hl
  rw [h1, Hn]
  by_cases e1 : c = 120
  ·rw [if_pos e1, show ∀ r, Eo 0 2 r = Bu 0 2 r from Hg 1 0]
   exact Abn s k c w hs hlt h2 e1
  ·rw [if_neg e1]
   by_cases e2 : c = 117
   ·rw [if_pos e2, show ∀ r, Eo 0 4 r = Bu 0 4 r from Hg 3 0]
    exact Aa6 s k c w hs hlt h2 e2
   ·rw [if_neg e2]
    cases e3 : enN c
    ·rw [if_neg (by simp)]
     by_cases e4 : c = 48
     ·rw [if_pos e4]
      exact Qz s k c w hs hlt h2 e4
     ·rw [if_neg e4]
      by_cases e5 : c = 98 ∨ c = 116 ∨ c = 110 ∨ c = 118 ∨ c = 102 ∨ c = 114
      ·rw [if_neg (by rcases e5 with rfl | rfl | rfl | rfl | rfl | rfl <;> decide)]
       exact hall (by rcases e5 with rfl | rfl | rfl | rfl | rfl | rfl <;> decide)
      ·rw [show Od c = c by unfold Od; simp only [not_or] at e5; obtain ⟨a1, a2, a3, a4, a5, a6⟩ := e5; simp [a1, a2, a3, a4, a5, a6]]
       exact Tb s k c w hs hlt h2 (by omega) e3
    ·rw [if_pos rfl]
     exact Q0 s k c w hs hlt h2 e3
 ·rw [List.drop_eq_nil_iff.2 (by rw [Ab]; omega)]
  exact Uw s k w hs (by omega)

end
section
def Aj2 (k : Nat) : Option (List Nat × Nat) → Ending
 | none => .returned (.tuple #[.string ⟨#[]⟩, .int .i64 0, .bool false])
 | some p => .returned (.tuple #[.string ⟨(bL p.1).toArray⟩, .int .i64 ((k + 1 + p.2 : Nat) : Int), .bool true])
theorem Uv {B : Nat} {l : List Nat} {v : Value} {w w' : World} (h : Own16 B l v w) (hb : Below w.heap.size w w') : Own16 B l v w' := by
 refine h.kept (row := none) ⟨hb.os, hb.tape, hb.output, hb.size, fun k hk _ => hb.block k hk⟩ ?_
 cases v.ownBlock <;> simp
theorem Aeh (s : ByteArray) (k q : Nat) (w : World) (hs : s.size ≤ 35184372088832) (hk : k < ln s) (hq : hd0 ((us s).drop k) = q) (hen : enN q = false) :
  Cp 80 #[.string s, .int .i64 k] w fun e w' => e = Aj2 k (Fa q ((us s).drop (k + 1))) ∧ Below w.heap.size w w' := by
 have hs63 : s.size ≤ maxLen := by unfold maxLen; omega
 obtain ⟨i0, hi, hz0, hz1, hz2⟩ := info_parts Cx
 have hln := Ap s
 have hzq : zU ((us s).drop k) = q := by
  rcases hd : (us s).drop k with _ | ⟨c, r⟩
  ·exfalso
   rw [List.drop_eq_nil_iff, Ab] at hd
   omega
  ·rw [hd] at hq; exact hq
 have C0 := fun W => Ce s k W hs63
 rw [hzq] at C0
 have C0 := Lh C0
 have CL := Lh (fun W => Cw s W hs63)
 have C1 := Lh (fun (j : Nat) W => Ce s j W hs63)
 have CE := Lh (fun (c : Nat) W => Dh c W)
 have CX := Lh (fun (j : Nat) (hj : j ≤ ln s) W => Vq s j W (by omega) hj)
 obtain ⟨R, hR⟩ : ∃ R, Fa q ((us s).drop (k + 1)) = R := ⟨_, rfl⟩
 rw [hR]
 have HR := Lh (show Fo q k (k + 1) [] s = R by unfold Fo; rw [hR]; cases R with | none => rfl | some p => simp)
 have hkl : (k : Int) < 140737488355328 := by omega
 have hll : (ln s : Int) ≤ 17592186044416 := by omega
 have HL := Lh (show ln s ≤ 17592186044416 by omega)
 have HEN := Lh hen
 have HS := Lh hs
 clear hs hs63 hq hR hln hzq hen
 go_enter Tryz.func80, Tryz.ntmps80
 go_wp2_with fail
 refine Dm (C0.out _) fun n0 => ?_
 go_wp2
 go_loopw [1, 8] (fun av lv wr => ∃ (j : Nat) (l : List Nat) (v : Value), av = .int .i64 j ∧ lv = v ∧ j ≤ ln s ∧ k + 1 ≤ j ∧ Hid (l.length ≤ j ∧ (∀ u ∈ l, u < 65536) ∧ Fo q k j l s = R) ∧ Own16 w.heap.size l v wr ∧ Below w.heap.size w wr) (fun av _ _ => ln s - (intOf av).toNat)
 case atStart => exact ⟨k + 1, [], _, by go_num, rfl, by omega, by omega, Lh ⟨by simp, by simp, HR.out⟩, Own16.nil _ _, Ac (Below.refl _ w) n0⟩
 case round =>
  obtain ⟨j, l, v, rfl, hv, hj, hkj, HJ, H, hb⟩ := hrel
  obtain rfl := hv.symm
  clear hkl
  obtain ⟨h1, h2, h3⟩ := HJ.out
  have hsz := hb.size
  have H2 := Lh h2
  have hlj : l.length ≤ ln s := by omega
  have hsl : ln s ≤ 17592186044416 := HL.out
  have HJ1 := Lh h1
  have HJ3 := Lh hj
  have HJ4 := Lh hkj
  have HJ5 := Lh hlj
  have hjl : (j : Int) ≤ 17592186044416 := by omega
  have hl35 : l.length ≤ 17592186044416 := by omega
  clear HJ h2 h1 hkj hlj hsl
  rcases Nat.lt_or_ge j (ln s) with hlt | hge
  ·obtain ⟨c, hd1, hd2⟩ := Bw (L := us s) (k := j) (by rw [Ab]; exact hlt)
   have HC : Hid (c < 65536) := Lh (J1 s c (List.mem_of_mem_drop (by rw [hd1]; simp)))
   have HLT := Lh hlt
   have t1 : (j : Int) < (ln s : Int) := by omega
   clear hlt hj
   have C2 := C1.out j
   rw [hd1, Ke] at C2
   have C2 := Lh C2
   have C3 := CE.out c
   have h4 : R = (Fa q (c :: (us s).drop (j + 1))).map fun p => (l ++ p.1, j - (k + 1) + p.2) := by
    rw [← h3]
    unfold Fo
    rw [hd1]
   rw [S9] at h4
   clear hd1 hd2 h3
   by_cases hcq : c = q
   ·subst hcq
    rw [HEN.out, if_neg (by simp), if_pos rfl] at h4
    obtain ⟨m, hm⟩ : ∃ m, j - (k + 1) + 1 = m := ⟨_, rfl⟩
    have hm2 : k + 1 + m = j + 1 := by have := HJ4.out; omega
    have h5 : R = some (l, m) := by rw [h4, ← hm]; simp
    subst h5
    clear h4 hm HR CX C3
    have CM := Lh (fun W (HO : Own16 w.heap.size l v W) => Pi HO H2.out (by omega))
    have HM := Lh hm2
    clear hm2
    go_wp2_with fail
    refine Sm (CL.out _) ?_
    go_wp2_with fail
    refine Dm (C2.out _) fun n1 => ?_
    go_wp2_with fail
    refine Bm (CM.out _ (show Own16 w.heap.size l v (wr.drewN n1) from H)) fun w1 b1 => ?_
    have hbw := Aa (Ac hb n1) b1
    clear H b1
    go_wp2
    go_ret3
    refine ⟨?_, hbw⟩
    have := HM.out
    simp [Aj2]
    omega
   ·have g1 : ((c : Int) == (q : Int)) = false := by rw [beq_eq_false_iff_ne]; omega
    cases he : enN c
    ·rw [show enB (c : Int) = false from he] at C3
     rw [he, if_neg (by simp), if_neg hcq] at h4
     have C3 := Lh C3
     by_cases h92 : c = 92
     ·subst h92
      rw [if_pos rfl] at h4
      have C4 := fun W => CX.out (j + 1) HLT.out W
      cases hE : Hn ((us s).drop (j + 1)) with
      | none =>
       rw [hE] at C4 h4
       obtain rfl : R = none := h4
       clear hE he hcq
       have C4 := Lh (show ∀ W, Cp 118 #[.string s, .int .i64 ((j : Int) + 1)] W fun e w' => ∃ v' a, e = .returned (.tuple #[v', .int .i64 a, .bool false]) ∧ Below W.heap.size W w' from fun W => (C4 W).mono fun e w' ⟨⟨v', a, he⟩, hb⟩ => ⟨v', a, he, hb⟩)
       clear HR CX
       go_wp2_with fail
       refine Sm (CL.out _) ?_
       go_wp2_with fail
       refine Dm (C2.out _) fun n1 => ?_
       go_wp2_with fail
       refine Sm (C3.out _) ?_
       go_wp2_with fail
       refine (C4.out _).mono ?_
       rintro e w1 ⟨v', a, rfl, b1⟩
       have hbw := Aa (Ac hb n1) b1
       clear H b1
       go_wp2
       go_ret3
       exact ⟨rfl, hbw⟩
      | some p =>
       obtain ⟨u, m⟩ := p
       have hm := Ru hE
       rw [List.length_drop, Ab] at hm
       have hu := Ae9 (fun x hx => J1 s x (List.mem_of_mem_drop hx)) hE
       have hu1 := Qf hE
       rw [hE] at C4 h4
       obtain ⟨j2, hj2⟩ : ∃ j2, j + 1 + m = j2 := ⟨_, rfl⟩
       have C4 := Lh (show ∀ W, Cp 118 #[.string s, .int .i64 ((j : Int) + 1)] W fun e w' => ∃ v', e = .returned (.tuple #[v', .int .i64 (j2 : Nat), .bool true]) ∧ LitV W.heap.size u v' w' ∧ Below W.heap.size W w' from fun W => (C4 W).mono fun e w' ⟨⟨v', he, ho⟩, hb⟩ => ⟨v', by rw [he, ← hj2], ho, hb⟩)
       have HN : Hid (Fo q k j2 (l ++ u) s = R) := Lh (by
        rw [h4]
        simp only [Fo]
        rw [List.drop_drop, hj2]
        cases Fa q ((us s).drop j2) with
        | none => rfl
        | some p => simp; have := HJ4.out; omega)
       have HU : Hid ((l ++ u).length ≤ j2 ∧ ∀ x ∈ l ++ u, x < 65536) := Lh ⟨by rw [List.length_append]; have := HJ1.out; omega, fun x hx => by
        rcases List.mem_append.1 hx with h | h
        ·exact H2.out x h
        ·exact hu x h⟩
       have hj3 : j2 ≤ ln s := by have := HLT.out; omega
       have hj4 : k + 1 ≤ j2 := by have := HJ4.out; omega
       have hj5 : j < j2 := by omega
       have HJ7 := Lh hj3
       have HJ8 := Lh hj4
       have HJ9 := Lh hj5
       clear hE h4 hu hu1 hm hj2 HR CX hj3 hj4 hj5 he hcq
       go_wp2_with fail
       refine Sm (CL.out _) ?_
       go_wp2_with fail
       refine Dm (C2.out _) fun n1 => ?_
       go_wp2_with fail
       refine Sm (C3.out _) ?_
       go_wp2_with fail
       refine (C4.out _).mono ?_
       rintro e w1 ⟨v', rfl, hl, b1⟩
       have o1 : Own16 w.heap.size l v w1 := Uv (show Own16 w.heap.size l v (wr.drewN n1) from H) b1
       have hbw := Aa (Ac hb n1) b1
       have hszw := hbw.size
       rcases hl with ⟨rfl, rfl⟩ | ⟨x, g, rfl, rfl, hg, hgB, hgs⟩
       ·have HJ2 := Lh (show (l ++ []).length ≤ j2 ∧ (∀ x ∈ l ++ [], x < 65536) ∧ Fo q k j2 (l ++ []) s = R from ⟨HU.out.1, HU.out.2, HN.out⟩)
        have o2 := Lh (show Own16 w.heap.size (l ++ []) v w1 by rw [List.append_nil]; exact o1)
        clear H b1
        go_wp2_with (at_builtin; refine wpList_append_own_none rfl _ _ 57 rfl w.heap.size 52 i0 1 Tryz.underlying57 hi _ _ _ rfl o1 rfl ?_)
        go_roundw
        case rel => exact ⟨j2, l ++ [], v, rfl, rfl, HJ7.out, HJ8.out, HJ2, o2.out, hbw⟩
        case measure => have := HLT.out; have := HJ9.out; simp [intOf]; omega
       ·have HJ2 := Lh (show (l ++ [x]).length ≤ j2 ∧ (∀ x' ∈ l ++ [x], x' < 65536) ∧ Fo q k j2 (l ++ [x]) s = R from ⟨HU.out.1, HU.out.2, HN.out⟩)
        clear H b1 hgB hgs
        go_wp2_with (at_builtin; refine wpList_append_own _ rfl _ _ 57 rfl w.heap.size 52 i0 (.int .u16 0) 1 2 Tryz.underlying57 hi hz0 hz1 hz2 rfl (by decide) _ _ _ rfl o1 ⟨g, 0, none⟩ 1 1 [.int .u16 (x : Nat)] rfl rfl ?c1 ?c2 ?c3 ?c4 ?c5 ?_)
        case c1 =>
         intro i y hy
         cases i with
         | zero => obtain rfl := Option.some.inj hy; exact hg
         | succ i => cases hy
        case c2 => simp [Value.oneCell']
        case c3 => unfold maxLen; omega
        case c4 => omega
        case c5 => exact hszw
        intro v2 w2 hown hgr _
        have hb2 : Below w.heap.size w w2 := hbw.grown hgr hszw (fun j hj => (World.ownsRow.lt o1 j hj).1)
        have o2 := Lh (show Own16 w.heap.size (l ++ [x]) v2 w2 by simpa [Own16] using hown)
        clear hown hgr o1 hg
        go_wp2
        go_roundw
        case rel => exact ⟨j2, l ++ [x], v2, rfl, rfl, HJ7.out, HJ8.out, HJ2, o2.out, hb2⟩
        case measure => have := HLT.out; have := HJ9.out; simp [intOf]; omega
     ·rw [if_neg h92] at h4
      have g2 : ((c : Int) != 92) = true := by rw [bne_iff_ne]; omega
      have HN : Hid (Fo q k (j + 1) (l ++ [c]) s = R) := Lh (by
       rw [h4]
       unfold Fo
       cases Fa q ((us s).drop (j + 1)) with
       | none => rfl
       | some p => simp; have := HJ4.out; omega)
      have HU : Hid ((l ++ [c]).length ≤ j + 1 ∧ (∀ x ∈ l ++ [c], x < 65536) ∧ Fo q k (j + 1) (l ++ [c]) s = R) := Lh ⟨by rw [List.length_append, List.length_singleton]; have := HJ1.out; omega, fun x hx => by
       rcases List.mem_append.1 hx with h | h
       ·exact H2.out x h
       ·have := HC.out; simp at h; omega, HN.out⟩
      clear h4 hcq h92 HR CX he HN
      go_wp2_with fail
      refine Sm (CL.out _) ?_
      go_wp2_with fail
      refine Dm (C2.out _) fun n1 => ?_
      go_wp2_with fail
      refine Sm (C3.out _) ?_
      go_wp2_with (at_builtin; refine wpList_append_own _ rfl _ _ 57 rfl (w.heap.size) 52 i0 (.int .u16 0) 1 2 Tryz.underlying57 hi hz0 hz1 hz2 rfl (by decide) _ _ _ rfl (World.ownsRow.alloc (w := (wr.drewN (n1))) H _) ⟨(wr.drewN (n1)).heap.size, 0, none⟩ 1 1 [.int .u16 (c : Nat)] rfl rfl ?c1 ?c2 ?c3 ?c4 ?c5 ?_)
      case c1 => exact (cell_one_new _ _ _)
      case c2 => simp [Value.oneCell']
      case c3 => unfold maxLen; omega
      case c4 => omega
      case c5 => simp; omega
      intro v' w1 hown hg _
      have hbw : Below w.heap.size w w1 := ((Ac hb n1).alloc (by simpa using hsz) _).grown hg (by simp; omega) (fun j hj => (World.ownsRow.lt H j hj).1)
      have o2 := Lh (show Own16 w.heap.size (l ++ [c]) v' w1 by simpa [Own16] using hown)
      clear hown hg H hb
      go_wp2
      go_roundw
      case rel => exact ⟨j + 1, l ++ [c], v', by go_num, rfl, HLT.out, by have := HJ4.out; omega, HU, o2.out, hbw⟩
      case measure => have := HLT.out; simp [intOf]; omega
    ·rw [show enB (c : Int) = true from he] at C3
     rw [he, if_pos rfl] at h4
     obtain rfl : R = none := h4
     have C3 := Lh C3
     clear he HR CX hcq
     go_wp2_with fail
     refine Sm (CL.out _) ?_
     go_wp2_with fail
     refine Dm (C2.out _) fun n1 => ?_
     go_wp2_with fail
     refine Sm (C3.out _) ?_
     go_wp2
     go_ret3
     exact ⟨rfl, Ac hb n1⟩
  ·have hd : (us s).drop j = [] := List.drop_eq_nil_iff.2 (by rw [Ab]; exact hge)
   obtain rfl : R = none := by rw [← h3]; unfold Fo; rw [hd]; rfl
   have t1 : ¬ (j : Int) < (ln s : Int) := by omega
   clear hd h3 HR CX
   go_wp2_with fail
   refine Sm (CL.out _) ?_
   go_wp2
   go_ret3
   exact ⟨rfl, hb⟩

end
section
theorem Yq (l : List UInt8) (r : Int) : Lib.byteCells (l ++ Lib.encodeRune r) = Lib.byteCells l ++ Lib.runeCells r := by
 rw [Lib.byteCells_append, Lib.byteCells_encodeRune]
theorem Ip (B : Nat) (l : List UInt8) (r : Int) (h0 : 0 ≤ r) (h1 : r ≤ 1114111) (w : World) (h : Bld B l w) (hlen : l.length + 4 ≤ 140737488355328) (hBw : B ≤ w.heap.size) :
  Cp 86 #[.pointer (some ⟨B, 0, none⟩), .int .i32 r] w fun e w' => e = .returned (.tuple #[.int .i64 (Lib.runeCells r).length, .nilIface]) ∧ Bld B (l ++ Lib.encodeRune r) w' ∧ Below B w w' := by
 refine (Tryz.Builder_WriteRune_k B B _ r (by omega) (by omega) _ h (by rw [Lib.byteCells_length]; omega) hBw).mono ?_
 rintro e w' ⟨rfl, hb, bl, _⟩
 exact ⟨rfl, by rw [Bld, Yq]; exact .inr hb, bl⟩
theorem Ku {B : Nat} {l : List UInt8} {w : World} (h : Bld B l w) (n : Nat) : Bld B l (w.drewN n) := h
theorem Og (s : ByteArray) (w : World) (hs : s.size ≤ 17592186044416) :
  Ct 47 #[.string s] (.string ⟨(J2 s).toArray⟩) w := by
 have hl := Ap s
 have hm : ((ln s : Nat) : Int) ≤ 8796093022208 := by omega
 have hs63 : s.size ≤ maxLen := by unfold maxLen; omega
 have HS := Lh hs
 have HL := Lh hl
 have H63 := Lh hs63
 clear hs hl hs63
 have hg : Cp 83 #[.pointer (some ⟨w.heap.size, 0, none⟩), .int .i64 (ln s)] (w.alloc (.cells #[.pointer none, .slice none 0 0] 85)) fun e w' => e = .returned (.tuple #[]) ∧ (Lib.BuilderAt 85 5 w.heap.size w.heap.size (.pointer (some ⟨w.heap.size, 0, none⟩)) [] w' ∧ Below w.heap.size (w.alloc (.cells #[.pointer none, .slice none 0 0] 85)) w') :=
  Tryz.Builder_Grow_fresh w.heap.size w.heap.size (ln s) _ (Nat.le_refl _) (Hz w _) (by simp) (by have := HS.out; have := HL.out; omega)
 go_enter Tryz.func47, Tryz.ntmps47
 go_wp2_with fail
 refine Sm (Cr s _ H63.out) ?_
 go_wp2_with fail
 refine hg.mono ?_
 rintro e w1 ⟨rfl, hb1, bl1⟩
 have hbl : Below w.heap.size w w1 := ((Below.refl w.heap.size w).alloc (Nat.le_refl _) _).trans bl1
 clear hg
 go_wp2
 go_loopw [4] (fun i wr => ∃ (k fuel : Nat) (acc : List UInt8), i = .int .i64 k ∧ k ≤ ln s ∧ Bld w.heap.size acc wr ∧ Below w.heap.size w wr ∧ acc ++ Hm s fuel k = J2 s ∧ ln s ≤ k + fuel ∧ acc.length ≤ 6 * k) (fun i _ => ln s - (intOf i).toNat)
 case atStart => exact ⟨0, ln s, [], rfl, Nat.zero_le _, Lib.IsBuilderF.of (.inr hb1), hbl, rfl, by omega, by simp⟩
 case round =>
  obtain ⟨k, fuel, acc, rfl, hk, hI, hbw, hacc, hfu, hal⟩ := hrel
  have HA := Lh hacc
  clear hacc
  have hsz := Rn hI
  have c1 := fun W => Cr s W H63.out
  by_cases hlt : k < ln s
  ·obtain ⟨f, rfl⟩ : ∃ f, fuel = f + 1 := ⟨fuel - 1, by omega⟩
   have c2 := fun W => I8 s k W hlt H63.out
   have c3 := fun W => Agz s k W hlt H63.out
   have hu := Pw s k
   have hbl2 : acc.length + 6 ≤ 140737488355328 := by have := HS.out; have := HL.out; omega
   cases hp : prB s k
   ·cases h1 : (hiB (un s k) || loB (un s k))
    ·have hA : Wx (un s k) = Lib.encodeRune (un s k) := by unfold Wx; rw [h1]; rfl
     have HG := Lh (show (acc ++ Lib.encodeRune (un s k)) ++ Hm s f (k + 1) = J2 s by rw [← HA.out, Np s f k hlt hp, hA, List.append_assoc])
     have hlen : (acc ++ Lib.encodeRune (un s k)).length ≤ 6 * (k + 1) := by rw [List.length_append]; have := Ac0 (un s k); omega
     have h2 : decide (((un s k : Nat) : Int) < 55296) = true ∨ (decide (((un s k : Nat) : Int) < 55296) = false ∧ decide ((57344 : Int) ≤ ((un s k : Nat) : Int)) = true) := by
      simp [hiB, loB] at h1; simp; omega
     have hr := fun W h hb => Ip w.heap.size acc (un s k) (by omega) (by omega) W h (by omega) hb
     have hlt' : (k : Int) < (ln s : Int) := by omega
     clear hA HA h1 hp hu hbl2 c3
     have hw := Lh (show wrap32 ((un s k : Nat) : Int) = ((un s k : Nat) : Int) by have := Pw s k; unfold wrap32; omega)
     rcases h2 with h2 | ⟨h2, h3⟩
     all_goals
      go_wp2_with fail
      refine Sm (c1 _) ?_
      go_wp2_with fail
      refine Dm (c2 _) fun n => ?_
      go_wp2_with fail
      rw [hw.out]
      refine (hr _ (Ku hI n) (by have := hbw.size; simpa using this)).mono ?_
      rintro e w3 ⟨rfl, hI3, hb3⟩
      go_wp2
      go_roundw
      case rel => exact ⟨k + 1, f, acc ++ Lib.encodeRune (un s k), by go_num, by omega, hI3, (Ac hbw n).trans hb3, HG.out, by omega, hlen⟩
      case measure => simp [intOf]; omega
    ·have hA : Wx (un s k) = esc (un s k) := by unfold Wx; rw [h1]; rfl
     have HG := Lh (show (acc ++ esc (un s k)) ++ Hm s f (k + 1) = J2 s by rw [← HA.out, Np s f k hlt hp, hA, List.append_assoc])
     have hlen : (acc ++ esc (un s k)).length ≤ 6 * (k + 1) := by rw [List.length_append]; simp [esc]; omega
     have h23 : decide (((un s k : Nat) : Int) < 55296) = false ∧ decide ((57344 : Int) ≤ ((un s k : Nat) : Int)) = false := by
      simp [hiB, loB] at h1; simp; omega
     obtain ⟨h2, h3⟩ := h23
     have hr := fun W h hb => L6 w.heap.size acc (un s k) (by omega) W h (by omega) hb
     have hlt' : (k : Int) < (ln s : Int) := by omega
     have HP := Lh hp
     clear hA HA h1 hp hu hbl2
     go_wp2_with fail
     refine Sm (c1 _) ?_
     go_wp2_with fail
     refine Dm (c2 _) fun n => ?_
     go_wp2_with fail
     refine (c3 _).mono ?_
     rw [HP.out]
     rintro e w' ⟨rfl, n2, rfl⟩
     go_wp2_with fail
     refine (hr _ (Ku hI (n + n2)) (by have := hbw.size; simpa using this)).mono ?_
     rintro e w3 ⟨rfl, hI3, hb3⟩
     go_wp2
     go_roundw
     case rel => exact ⟨k + 1, f, acc ++ esc (un s k), by go_num, by omega, hI3, (Ac hbw (n + n2)).trans hb3, HG.out, by omega, hlen⟩
     case measure => simp [intOf]; omega
   ·have hpp := Pu s k hp
    have hlt' : (k : Int) < (ln s : Int) := by omega
    have c4 : ∀ W, Cp 85 #[.string s, .int .i64 ((k : Int) + 1)] W fun e w' => e = .returned (.int .u16 (un s (k + 1))) ∧ ∃ n, w' = W.drewN n := fun W => by
     rw [show ((k : Int) + 1) = ((k + 1 : Nat) : Int) by omega]; exact I8 s (k + 1) W hpp.1 H63.out
    have h2 : decide (((un s k : Nat) : Int) < 55296) = false := by simp; omega
    have h3 : decide ((57344 : Int) ≤ ((un s k : Nat) : Int)) = false := by simp; omega
    have hP := Lh (show ((prP s k : Nat) : Int) = 65536 + (((un s k : Nat) : Int) - 55296) * 1024 + (((un s (k + 1) : Nat) : Int) - 56320) by unfold prP; omega)
    have hr := fun W h hb => Ip w.heap.size acc (65536 + (((un s k : Nat) : Int) - 55296) * 1024 + (((un s (k + 1) : Nat) : Int) - 56320)) (by omega) (by omega) W h (by omega) hb
    have HG := Lh (show (acc ++ Lib.encodeRune (prP s k)) ++ Hm s f (k + 2) = J2 s by rw [← HA.out, Qm s f k hlt hp, List.append_assoc])
    have hlen : (acc ++ Lib.encodeRune (prP s k)).length ≤ 6 * (k + 2) := by rw [List.length_append]; have := Ac0 (prP s k); omega
    clear HA
    go_wp2_with fail
    refine Sm (c1 _) ?_
    go_wp2_with fail
    refine Dm (c2 _) fun n => ?_
    go_wp2_with fail
    refine (c3 _).mono ?_
    rw [hp]
    rintro e w' ⟨rfl, n2, rfl⟩
    go_wp2_with fail
    refine Dm (c4 _) fun n3 => ?_
    go_wp2_with fail
    refine (hr _ (Ku hI (n + n2 + n3)) (by have := hbw.size; simpa using this)).mono ?_
    rintro e w3 ⟨rfl, hI3, hb3⟩
    go_wp2
    go_roundw
    case rel => exact ⟨k + 2, f, acc ++ Lib.encodeRune (prP s k), by go_num, by omega, by rw [hP.out]; exact hI3, (Ac hbw (n + n2 + n3)).trans hb3, HG.out, by omega, hlen⟩
    case measure => simp [intOf]; omega
  ·have HZ := Lh (show acc = J2 s by rw [← HA.out, Ts s fuel k hlt, List.append_nil])
   have hS := Tryz.Builder_String_any_k w.heap.size w.heap.size acc wr hI (by omega)
   have hlt' : ¬ ((k : Int) < (ln s : Int)) := by omega
   clear HA
   go_wp2_with (first | (go_at_call 34; refine (c1 _).mono ?_; rintro e w' ⟨rfl, rfl⟩) | (go_at_call 61; refine hS.mono ?_; rintro e w2 ⟨rfl, _, hb2, _⟩))
   go_ret
   rw [← HZ.out]
   exact ⟨rfl, hbw.trans hb2⟩


end
section
theorem J7 (s : ByteArray) : ∀ c ∈ bl s, c < 256 := by
 intro c hc
 unfold bl at hc
 obtain ⟨b, _, rfl⟩ := List.mem_map.1 hc
 exact b.toNat_lt
theorem Akc (X : List UInt8) : bl ⟨X.toArray⟩ = X.map UInt8.toNat := by unfold bl; simp
theorem Kq {X : List UInt8} {L : List Nat} (h : X.map UInt8.toNat = L) : (⟨X.toArray⟩ : ByteArray) = Ad L := by
 refine Sa ?_
 rw [Akc, h, Al]
 intro u hu
 rw [← h] at hu
 obtain ⟨b, _, rfl⟩ := List.mem_map.1 hu
 exact b.toNat_lt
theorem Tk (s : ByteArray) : Ad (bl s) = s := Sa (Al (J7 s))
theorem Me (s : ByteArray) : s.data.toList.map UInt8.toNat = bl s := rfl
theorem Ak (l : List Nat) : (Ad l).size = l.length := by
 unfold Ad
 show (Array.size _) = _
 simp
theorem Bj (s : ByteArray) : (bl s).length = s.size := Aja s
theorem Abf : Ad [] = ByteArray.empty := rfl
theorem Lm {p : UInt8 → Bool} {q : Nat → Bool} (h : ∀ b : UInt8, p b = q b.toNat) : ∀ l : List UInt8, (l.dropWhile p).map UInt8.toNat = (l.map UInt8.toNat).dropWhile q := by
 intro l
 rw [List.dropWhile_map]
 congr 1
 congr 1
 funext b
 exact h b
theorem Agb (s : ByteArray) (k : UInt8) : Lib.hasPrefix s.data.toList [k] = ((bl s).head? == some k.toNat) := by
 unfold Lib.hasPrefix bl
 cases s.data.toList with
 | nil => rfl
 | cons c r =>
  show (k == c && true) = (some c.toNat == some k.toNat)
  rw [Bool.eq_iff_iff]
  simp only [Bool.and_true, beq_iff_eq, Option.some.injEq]
  exact ⟨fun e => by rw [e], fun e => (UInt8.toNat_inj.1 e).symm⟩
theorem Agh (s : ByteArray) (k : UInt8) : (⟨(Lib.trimPrefix s.data.toList [k]).toArray⟩ : ByteArray) = Ad (if (bl s).head? = some k.toNat then (bl s).tail else bl s) := by
 refine Kq ?_
 unfold Lib.trimPrefix
 rw [Agb]
 by_cases h : (bl s).head? = some k.toNat
 ·rw [if_pos h, beq_iff_eq.2 h, if_pos rfl, List.map_drop, Me]
  exact List.drop_one
 ·rw [if_neg h, beq_eq_false_iff_ne.2 h, if_neg (by simp), Me]
theorem Z9 : ∀ (p l : List UInt8), p.isPrefixOf l = (p.map UInt8.toNat).isPrefixOf (l.map UInt8.toNat)
 | [], l => by cases l <;> rfl
 | c :: p, [] => rfl
 | c :: p, d :: l => by
  show (c == d && p.isPrefixOf l) = (c.toNat == d.toNat && (p.map UInt8.toNat).isPrefixOf (l.map UInt8.toNat))
  rw [Z9 p l]
  congr 1
  rw [Bool.eq_iff_iff, beq_iff_eq, beq_iff_eq]
  exact ⟨fun e => by rw [e], fun e => UInt8.toNat_inj.1 e⟩
theorem Adn (s p : ByteArray) : Lib.hasPrefix s.data.toList p.data.toList = (bl p).isPrefixOf (bl s) := Z9 _ _
theorem Ajv (s p : ByteArray) : (⟨(Lib.trimPrefix s.data.toList p.data.toList).toArray⟩ : ByteArray) = Ad (if (bl p).isPrefixOf (bl s) = true then (bl s).drop p.size else bl s) := by
 refine Kq ?_
 unfold Lib.trimPrefix
 rw [Adn]
 by_cases h : (bl p).isPrefixOf (bl s) = true
 ·rw [if_pos h, if_pos h, List.map_drop, Me, ← Lib.size_eq]
 ·rw [if_neg h, if_neg h, Me]
def O9 (r : Nat) : ByteArray := (⟨#[48, 49, 50, 51, 52, 53, 54, 55, 56, 57, 97, 98, 99, 100, 101, 102, 103, 104, 105, 106, 107, 108, 109, 110, 111, 112, 113, 114, 115, 116, 117, 118, 119, 120, 121, 122]⟩ : ByteArray).extract 0 r
def ldq (r : Nat) (c : Nat) : Bool := decide (dgt c < r) && !(decide (65 ≤ c) && decide (c ≤ 90))
theorem Ah7 : ∀ (r : Fin 37) (b : Fin 256), (O9 r.val).data.toList.contains (UInt8.ofNat b.val) = ldq r.val b.val := by decide +kernel
theorem Qr {r : Nat} (hr : r ≤ 36) (b : UInt8) : (O9 r).data.toList.contains b = ldq r b.toNat := by
 have := Ah7 ⟨r, by omega⟩ ⟨b.toNat, b.toNat_lt⟩
 simpa using this
theorem Aaq : ∀ (r : Fin 37) (j : Fin 37), ∀ b, (O9 r.val).data.toList[j.val]? = some b → b.toNat < 128 := by decide +kernel
theorem Y9 : ∀ r : Fin 37, (O9 r.val).data.toList.length = r.val := by decide +kernel
theorem Acj {r : Nat} (hr : r ≤ 36) : (O9 r).size = r := by rw [Lib.size_eq]; exact Y9 ⟨r, by omega⟩
theorem Ahq {r : Nat} (hr : r ≤ 36) : ∀ (j : Nat) (b : UInt8), (O9 r).data.toList[j]? = some b → b.toNat < 128 := by
 intro j b hb
 rcases Nat.lt_or_ge j 37 with h | h
 ·exact Aaq ⟨r, by omega⟩ ⟨j, h⟩ b hb
 ·exfalso
  rw [List.getElem?_eq_none (by rw [Y9 ⟨r, by omega⟩]; show r ≤ j; omega)] at hb
  cases hb
theorem Aip (c : Nat) : ldq 10 c = Ah c := by
 unfold ldq
 rw [Bool.eq_iff_iff, Bool.and_eq_true, decide_eq_true_eq, Xs]
 constructor
 ·exact fun h => h.1
 ·intro h
  refine ⟨h, ?_⟩
  have := Ca.1 h
  simp; omega
theorem Ajm {r : Nat} (hr : r ≤ 36) (s : ByteArray) : (⟨(Lib.trimLeftS s.data.toList (O9 r).data.toList).toArray⟩ : ByteArray) = Ad ((bl s).dropWhile (ldq r)) :=
 Kq (Lm (fun b => Qr hr b) _)
theorem Lu (b : UInt8) : [(48 : UInt8)].contains b = (b.toNat == 48) := by
 rw [Lib.contains_one, Bool.eq_iff_iff, beq_iff_eq, beq_iff_eq]
 exact ⟨fun e => by rw [e]; rfl, fun e => UInt8.toNat_inj.1 e⟩
theorem Aj4 (s : ByteArray) : (⟨(Lib.trimLeftS s.data.toList [48]).toArray⟩ : ByteArray) = Ad (ldz (bl s)) :=
 Kq (Lm (q := (· == 48)) (fun b => Lu b) _)
theorem Aj3 (s : ByteArray) : (⟨(Lib.trimRightS s.data.toList [48]).toArray⟩ : ByteArray) = Ad (trz (bl s)) := by
 refine Kq ?_
 unfold Lib.trimRightS trz
 rw [List.map_reverse, Lm (q := (· == 48)) (fun b => Lu b), List.map_reverse]
 rfl
def Fm (c : Nat) : Nat := if 65 ≤ c ∧ c ≤ 90 then c + 32 else c
theorem Ags : ∀ b : Fin 128, (Lib.lowerB (UInt8.ofNat b.val)).toNat = Fm b.val := by decide +kernel
theorem Ag2 {s : ByteArray} (h : ∀ c ∈ bl s, c < 128) : (⟨(Lib.toLowerA s.data.toList).toArray⟩ : ByteArray) = Ad ((bl s).map Fm) := by
 refine Kq ?_
 unfold Lib.toLowerA bl
 rw [List.map_map, List.map_map]
 refine List.map_congr_left (fun b hb => ?_)
 have h1 : b.toNat < 128 := h b.toNat (List.mem_map.2 ⟨b, hb, rfl⟩)
 have := Ags ⟨b.toNat, h1⟩
 simpa using this
theorem Ajh {s : ByteArray} (h : ∀ c ∈ bl s, c < 128) : ∀ (j : Nat) (b : UInt8), s.data.toList[j]? = some b → b.toNat < 128 := fun _ b hb => h b.toNat (List.mem_map.2 ⟨b, List.mem_of_getElem? hb, rfl⟩)
theorem Rs (c : Nat) : dgt (Fm c) = dgt c := by
 unfold dgt Fm
 split <;> (repeat' split) <;> omega
theorem Zd (r c : Nat) : ldq r (Fm c) = decide (dgt c < r) := by
 unfold ldq
 rw [Rs]
 have : (decide (65 ≤ Fm c) && decide (Fm c ≤ 90)) = false := by unfold Fm; split <;> simp <;> omega
 rw [this]
 simp
theorem Yz (r : Nat) : ∀ l : List Nat, num r (l.map Fm) = num r l
 | [] => rfl
 | c :: l => by rw [List.map_cons, F8, F8, Rs, Yz r l, List.length_map]
theorem Adt (r : Nat) (l : List Nat) : (l.map Fm).takeWhile (ldq r) = (l.takeWhile (fun c => decide (dgt c < r))).map Fm := by
 rw [List.takeWhile_map]
 congr 1
 congr 1
 funext c
 exact Zd r c
theorem Ag7 (r : Nat) (l : List Nat) : (l.map Fm).dropWhile (ldq r) = (l.dropWhile (fun c => decide (dgt c < r))).map Fm := by
 rw [List.dropWhile_map]
 congr 1
 congr 1
 funext c
 exact Zd r c
theorem Gj (s : ByteArray) (k : Nat) : s.extract 0 k = Ad ((bl s).take k) := by
 refine Sa ?_
 rw [Al (fun u hu => J7 s u (List.mem_of_mem_take hu))]
 unfold bl
 rw [Lib.extract_data, List.drop_zero, Nat.sub_zero, List.map_take]
theorem Jm (s : ByteArray) (k : Nat) : s.extract k s.size = Ad ((bl s).drop k) := by
 refine Sa ?_
 rw [Al (fun u hu => J7 s u (List.mem_of_mem_drop hu)), Zr]
theorem Adx (p : Nat → Bool) (l : List Nat) : l.take (l.length - (l.dropWhile p).length) = l.takeWhile p := by
 have h := List.takeWhile_append_dropWhile (p := p) (l := l)
 have hl := congrArg List.length h
 rw [List.length_append] at hl
 have h2 : l.length - (l.dropWhile p).length = (l.takeWhile p).length := by omega
 rw [h2]
 have h3 : (l.takeWhile p ++ l.dropWhile p).take (l.takeWhile p).length = l.takeWhile p := List.take_left
 rw [h] at h3
 exact h3
theorem Fb (a b : List Nat) : Ad a ++ Ad b = Ad (a ++ b) := by
 unfold Ad
 rw [List.map_append]
 apply ByteArray.ext
 simp


end
section
theorem Ra (s : ByteArray) (k : UInt8) (w : World) : Cq 257 #[.string s, .string ⟨#[k]⟩] (.tuple #[.string (Ad (if (bl s).head? = some k.toNat then (bl s).tail else bl s)), .bool ((bl s).head? == some k.toNat)]) w := by
 refine (Tryz.strings_CutPrefix s ⟨#[k]⟩ w).mono fun e w' h => ⟨?_, h.2.symm⟩
 rw [h.1]
 have e1 := Agh s k
 have e2 := Agb s k
 exact congrArg Ending.returned (by rw [show (⟨#[k]⟩ : ByteArray).data.toList = [k] from rfl, e1, e2])
theorem Aee (s : ByteArray) (k : UInt8) (w : World) : Cq 331 #[.string s, .string ⟨#[k]⟩] (.string (Ad (if (bl s).head? = some k.toNat then (bl s).tail else bl s))) w := by
 refine (Tryz.strings_TrimPrefix s ⟨#[k]⟩ w).mono fun e w' h => ⟨?_, h.2.symm⟩
 rw [h.1]
 have e1 := Agh s k
 exact congrArg Ending.returned (by rw [show (⟨#[k]⟩ : ByteArray).data.toList = [k] from rfl, e1])
theorem Us (s p : ByteArray) (w : World) : Cq 257 #[.string s, .string p] (.tuple #[.string (Ad (if (bl p).isPrefixOf (bl s) = true then (bl s).drop p.size else bl s)), .bool ((bl p).isPrefixOf (bl s))]) w := by
 refine (Tryz.strings_CutPrefix s p w).mono fun e w' h => ⟨?_, h.2.symm⟩
 rw [h.1, Ajv, Adn]
def sgF (b : Bool) : Nat := if b = true then 13830554455654793216 else 4607182418800017408
theorem Jo (s : ByteArray) (w : World) : Cq 287 #[.string s] (.tuple #[.float .f64 (sgF (Ha (bl s)) : Nat), .string (Ad (unsg (bl s)))]) w := by
 have C1 := Lh (Ra s 45 w)
 have C2 := Lh (Aee s 43 w)
 have h1 : ((bl s).head? == some (45 : UInt8).toNat) = Ha (bl s) := rfl
 rw [h1] at C1
 cases h : Ha (bl s)
 ·rw [h] at C1
  have e1 : unsg (bl s) = if (bl s).head? = some (43 : UInt8).toNat then (bl s).tail else bl s := by
   have h2 : ¬ (bl s).head? = some 45 := by
    intro e
    unfold Ha at h
    rw [e] at h
    simp at h
   unfold unsg
   by_cases h3 : (bl s).head? = some 43
   ·rw [if_pos (Or.inr h3)]; exact (if_pos h3).symm
   ·rw [if_neg (by rintro (h4 | h4); exact h2 h4; exact h3 h4)]; exact (if_neg h3).symm
  rw [← e1] at C2
  obtain ⟨t, ht⟩ : ∃ t, Ad (unsg (bl s)) = t := ⟨_, rfl⟩
  rw [ht] at C2 ⊢
  obtain ⟨t1, ht1⟩ : ∃ t1, Ad (if (bl s).head? = some (45 : UInt8).toNat then (bl s).tail else bl s) = t1 := ⟨_, rfl⟩
  rw [ht1] at C1
  clear h h1 e1 ht ht1
  go_enter Tryz.func287, Tryz.ntmps287
  go_wp2_with fail
  refine C1.out.mono ?_
  rintro e w' ⟨rfl, rfl⟩
  go_wp2_with fail
  refine C2.out.mono ?_
  rintro e w' ⟨rfl, rfl⟩
  go_wp2
  go_ret2
  exact ⟨rfl, rfl⟩
 ·rw [h] at C1
  have e1 : unsg (bl s) = if (bl s).head? = some (45 : UInt8).toNat then (bl s).tail else bl s := by
   have h2 : (bl s).head? = some 45 := by
    unfold Ha at h
    exact beq_iff_eq.1 h
   unfold unsg
   rw [if_pos (Or.inl h2)]
   exact (if_pos h2).symm
  rw [← e1] at C1
  obtain ⟨t, ht⟩ : ∃ t, Ad (unsg (bl s)) = t := ⟨_, rfl⟩
  rw [ht] at C1 ⊢
  clear h h1 e1 ht C2
  go_enter Tryz.func287, Tryz.ntmps287
  go_wp2_with fail
  refine C1.out.mono ?_
  rintro e w' ⟨rfl, rfl⟩
  go_wp2
  go_ret2
  exact ⟨rfl, rfl⟩
theorem Pj (a b : Nat) (l : List Nat) : [a, b].isPrefixOf l = (l.head? == some a && l.tail.head? == some b) := by
 cases l with
 | nil => rfl
 | cons c r =>
  cases r with
  | nil =>
   show (a == c && false) = (some c == some a && (none : Option Nat) == some b)
   rw [Bool.eq_iff_iff]; simp
  | cons d q =>
   show (a == c && (b == d && true)) = (some c == some a && some d == some b)
   rw [Bool.eq_iff_iff]
   simp only [Bool.and_true, Bool.and_eq_true, beq_iff_eq, Option.some.injEq]
   exact ⟨fun e => ⟨e.1.symm, e.2.symm⟩, fun e => ⟨e.1.symm, e.2.symm⟩⟩
theorem U0 (s : ByteArray) (w : World) : Cq 253 #[.string s] (.tuple #[.string (Ad (if hxA (bl s) = true then (bl s).drop 2 else bl s)), .bool (hxA (bl s))]) w := by
 have C1 := Lh (Us s ⟨#[48, 120]⟩ w)
 have C2 := Lh (Us s ⟨#[48, 88]⟩ w)
 have h1 : (bl ⟨#[48, 120]⟩).isPrefixOf (bl s) = ((bl s).head? == some 48 && (bl s).tail.head? == some 120) := Pj 48 120 (bl s)
 have h2 : (bl ⟨#[48, 88]⟩).isPrefixOf (bl s) = ((bl s).head? == some 48 && (bl s).tail.head? == some 88) := Pj 48 88 (bl s)
 have hx : hxA (bl s) = ((bl ⟨#[48, 120]⟩).isPrefixOf (bl s) || (bl ⟨#[48, 88]⟩).isPrefixOf (bl s)) := by
  rw [h1, h2]; unfold hxA; cases ((bl s).head? == some 48) <;> rfl
 rw [hx]
 clear h1 h2 hx
 obtain ⟨p, hp⟩ : ∃ p, (bl ⟨#[48, 120]⟩).isPrefixOf (bl s) = p := ⟨_, rfl⟩
 obtain ⟨q, hq⟩ : ∃ q, (bl ⟨#[48, 88]⟩).isPrefixOf (bl s) = q := ⟨_, rfl⟩
 rw [hp] at C1
 rw [hq] at C2
 rw [hp, hq]
 rw [show (⟨#[48, 120]⟩ : ByteArray).size = 2 from rfl] at C1
 rw [show (⟨#[48, 88]⟩ : ByteArray).size = 2 from rfl] at C2
 clear hp hq
 cases p
 ·rw [if_neg (by simp)] at C1
  rw [Bool.false_or]
  obtain ⟨t, ht⟩ : ∃ t, Ad (if q = true then (bl s).drop 2 else bl s) = t := ⟨_, rfl⟩
  rw [ht] at C2 ⊢
  obtain ⟨t1, ht1⟩ : ∃ t1, Ad (bl s) = t1 := ⟨_, rfl⟩
  clear ht ht1
  go_enter Tryz.func253, Tryz.ntmps253
  go_wp2_with fail
  refine C1.out.mono ?_
  rintro e w' ⟨rfl, rfl⟩
  go_wp2_with fail
  refine C2.out.mono ?_
  rintro e w' ⟨rfl, rfl⟩
  go_wp2
  go_ret2
  exact ⟨rfl, rfl⟩
 ·rw [if_pos rfl] at C1
  rw [Bool.true_or, if_pos rfl]
  obtain ⟨t, ht⟩ : ∃ t, Ad ((bl s).drop 2) = t := ⟨_, rfl⟩
  rw [ht] at C1 ⊢
  clear ht C2
  go_enter Tryz.func253, Tryz.ntmps253
  go_wp2_with fail
  refine C1.out.mono ?_
  rintro e w' ⟨rfl, rfl⟩
  go_wp2
  go_ret2
  exact ⟨rfl, rfl⟩


end
section
theorem Aea (s : ByteArray) {r : Nat} (hr : r ≤ 36) (w : World) : Ct 259 #[.string s, .string (O9 r)] (.string (Ad ((bl s).dropWhile (ldq r)))) w := by
 have h := Tryz.strings_TrimLeft_laid s (O9 r) w (by rw [Acj hr]; omega) (Ahq hr)
 rw [Ajm hr s] at h
 exact h
theorem T8 (p : Nat → Bool) (l : List Nat) : (l.dropWhile p).length ≤ l.length := (List.dropWhile_sublist p).length_le
theorem Eb (s : ByteArray) (r : Nat) (w : World) (hr : r ≤ 36) (hs : s.size ≤ 4611686018427387903) :
  Ct 254 #[.string s, .int .i64 r] (.tuple #[.string (Ad ((bl s).takeWhile (ldq r))), .string (Ad ((bl s).dropWhile (ldq r)))]) w := by
 have C1 := Lh (Aea s hr w)
 unfold O9 at C1
 have hle := T8 (ldq r) (bl s)
 rw [Bj] at hle
 have hk := Adx (ldq r) (bl s)
 rw [Bj] at hk
 have hsz := Ak ((bl s).dropWhile (ldq r))
 obtain ⟨t, ht⟩ : ∃ t, Ad ((bl s).dropWhile (ldq r)) = t := ⟨_, rfl⟩
 rw [ht] at C1 hsz ⊢
 obtain ⟨k, hk2⟩ : ∃ k, s.size - t.size = k := ⟨_, rfl⟩
 have HE := Lh (show s.extract 0 k = Ad ((bl s).takeWhile (ldq r)) from by rw [Gj, ← hk, ← hk2, hsz])
 have h1 : (t.size : Int) ≤ (s.size : Int) := by omega
 have h2 : (s.size : Int) ≤ 4611686018427387903 := by omega
 have h3 : (s.size : Int) - (t.size : Int) = (k : Int) := by omega
 have h4 : (k : Int) ≤ (s.size : Int) := by omega
 have hr1 : (r : Int) ≤ 36 := by omega
 rw [← HE.out]
 clear hle hk hsz ht hk2 hr hs
 go_enter Tryz.func254, Tryz.ntmps254
 go_wp2_with fail
 refine C1.out.mono ?_
 rintro e w' ⟨rfl, hb⟩
 go_wp2
 go_ret2
 exact ⟨rfl, hb⟩
theorem Vn (s : ByteArray) (w : World) (hs : s.size ≤ 4611686018427387903) (hd : ∀ c ∈ bl s, Ah c = true) :
  Cq 288 #[.string s] (.int .i64 (amt (bl s) : Nat)) w := by
 have h2 : (s.size : Int) ≤ 4611686018427387903 := by omega
 have HD := Lh hd
 clear hd hs
 go_enter Tryz.func288, Tryz.ntmps288
 go_wp2
 go_loopw [3, 7] (fun nv i wr => ∃ k : Nat, i = .int .i64 k ∧ k ≤ s.size ∧ nv = .int .i64 (amt ((bl s).take k) : Nat) ∧ w = wr) (fun _ i _ => s.size - (intOf i).toNat)
 case atStart => exact ⟨0, rfl, Nat.zero_le _, rfl, rfl⟩
 case round =>
  obtain ⟨k, rfl, hk, rfl, rfl⟩ := hrel
  by_cases hlt : k < s.size
  ·obtain ⟨B, hB⟩ : ∃ B : Nat, (s[k]'hlt).toNat = B := ⟨_, rfl⟩
   have hget : (bl s)[k]? = some B := by rw [Cg s k hlt, hB]
   have hdB := Ca.1 (HD.out B (List.mem_of_getElem? hget))
   obtain ⟨N, hN⟩ : ∃ N, amt ((bl s).take k) = N := ⟨_, rfl⟩
   have hNl : N < 10995116277760 := by rw [← hN]; exact Gv _ (fun c hc => HD.out c (List.mem_of_mem_take hc))
   have hstep : amt ((bl s).take (k + 1)) = O0 N B := by rw [List.take_add_one, hget, ← hN]; exact Fh _ _
   rw [hN]
   have a1 : (0 : Int) ≤ (k : Int) := by omega
   have a2 : (k : Int) < (s.size : Int) := by omega
   have a3 : ((s[k]'hlt).toNat : Int) = (B : Int) := by rw [hB]
   obtain ⟨D, hD⟩ : ∃ D : Nat, B - 48 = D := ⟨_, rfl⟩
   have a4 : IntKind.u8.wrap ((B : Int) - 48) = (D : Int) := by rw [IntWalk.u8_in _ (by omega)]; omega
   have a5 : IntKind.i64.wrap (D : Int) = (D : Int) := IntWalk.i64_in _ (by omega)
   by_cases hc : N < 1099511627776
   ·obtain ⟨M, hM⟩ : ∃ M : Nat, N * 10 + D = M := ⟨_, rfl⟩
    have HS := Lh (show amt ((bl s).take (k + 1)) = M from by rw [hstep]; unfold O0; rw [if_pos hc, hD, hM])
    have a6 : IntKind.i64.wrap (10 * (N : Int)) = 10 * (N : Int) := IntWalk.i64_in _ (by omega)
    have a7 : IntKind.i64.wrap (10 * (N : Int) + (D : Int)) = (M : Int) := by rw [IntWalk.i64_in _ (by omega)]; omega
    have t1 : decide ((N : Int) < 1099511627776) = true := decide_eq_true (by omega)
    clear hget hdB hN hNl hstep hB hD hM hc HD hk
    go_wp2
    exact ⟨⟨k + 1, by go_num, by omega, by rw [HS.out], trivial⟩, by simp [intOf]; omega⟩
   ·have HS := Lh (show amt ((bl s).take (k + 1)) = N from by rw [hstep]; unfold O0; rw [if_neg hc])
    have t1 : decide ((N : Int) < 1099511627776) = false := decide_eq_false (by omega)
    clear hget hdB hN hNl hstep hB hD hc HD hk a3 a4 a5
    go_wp2
    exact ⟨⟨k + 1, by go_num, by omega, by rw [HS.out], trivial⟩, by simp [intOf]; omega⟩
  ·have HZ := Lh (show (bl s).take k = bl s from List.take_of_length_le (by rw [Bj]; omega))
   go_wp2
   go_ret
   exact ⟨by rw [HZ.out]; rfl, rfl⟩
def sgI (b : Bool) : Int := if b = true then -1 else 1
theorem Aib (b : Bool) : ∀ W : World, (convert 22 3 (.float .f64 (sgF b))).run Tryz.prog W = .ok (.int .i64 (sgI b)) W := by
 intro W
 cases b
 ·rfl
 ·rfl
theorem Ki {l : List Nat} : ∀ c ∈ l.tail, c ∈ l := fun _ h => List.mem_of_mem_tail h
theorem Ag0 {l : List Nat} : ∀ c ∈ unsg l, c ∈ l := by
 intro c h
 unfold unsg at h
 split at h
 ·exact Ki c h
 ·exact h
theorem Zi {l : List Nat} : ∀ c ∈ Af l, c ∈ l := fun _ h => (List.takeWhile_sublist _).subset h
theorem Rj {l : List Nat} : ∀ c ∈ Ai l, c ∈ l := fun _ h => (List.dropWhile_sublist _).subset h
theorem Adq (l : List Nat) : (unsg l).length ≤ l.length := by
 unfold unsg
 split
 ·rw [List.length_tail]; omega
 ·omega
theorem Xj : ldq 10 = Ah := funext Aip
theorem Kt {l : List Nat} (h : l ≠ []) : ¬ (Ad l).toList = [] ∧ (Ad l).toList.isEmpty = false := by
 have h1 : ¬ (Ad l).toList = [] := by
  rw [Lib.toList_data]
  unfold Ad
  simpa using h
 refine ⟨h1, ?_⟩
 cases hh : (Ad l).toList with
 | nil => exact absurd hh h1
 | cons => rfl
theorem Sy (l : List Nat) (w : World) (hl : ∀ c ∈ l, c < 256) (hs : l.length ≤ 4611686018427387903) :
  Ct 254 #[.string (Ad l), .int .i64 10] (.tuple #[.string (Ad (Af l)), .string (Ad (Ai l))]) w := by
 have h := Eb (Ad l) 10 w (by omega) (by rw [Ak]; exact hs)
 rw [Al hl, Xj] at h
 exact h
theorem Zp {l : List Nat} (h : ¬ (l.head? = some 101 ∨ l.head? = some 69)) : Dq l = false := by
 unfold Dq
 have h1 : (l.head? == some 101) = false := beq_eq_false_iff_ne.2 (fun e => h (Or.inl e))
 have h2 : (l.head? == some 69) = false := beq_eq_false_iff_ne.2 (fun e => h (Or.inr e))
 rw [h1, h2]; rfl
theorem Ahs {l : List Nat} (h : l.head? = some 101 ∨ l.head? = some 69) : Dq l = !(Af (unsg l.tail)).isEmpty := by
 unfold Dq
 have h1 : (l.head? == some 101 || l.head? == some 69) = true := by
  rcases h with h | h
  ·rw [h]; rfl
  ·rw [h]; rfl
 rw [h1, Bool.true_and]
def ExpQ (l : List Nat) (w : World) (e : Ending) (w' : World) : Prop :=
 e = .returned (.tuple #[.int .i64 (exV l), .string (Ad (if Dq l = true then expR l else [])), .bool (Dq l)]) ∧ Below w.heap.size w w'
theorem ExpQ.no {l : List Nat} {w w' : World} (h : Dq l = false) (hb : Below w.heap.size w w') : ExpQ l w (.returned (.tuple #[.int .i64 0, .string ⟨#[]⟩, .bool false])) w' := by
 refine ⟨?_, hb⟩
 unfold exV
 rw [h, if_neg (by simp), if_neg (by simp)]
 rfl
theorem ExpQ.yes {l : List Nat} {w w' : World} (h : Dq l = true) (hb : Below w.heap.size w w') : ExpQ l w (.returned (.tuple #[.int .i64 (O6 l), .string (Ad (expR l)), .bool true])) w' := by
 refine ⟨?_, hb⟩
 unfold exV
 rw [h, if_pos rfl, if_pos rfl]
theorem Lo (s : ByteArray) (w : World) (hs : s.size ≤ 4611686018427387903) :
  Cp 258 #[.string s] w (ExpQ (bl s) w) := by
 have h2 : (s.size : Int) ≤ 4611686018427387903 := by omega
 by_cases h0 : s.size = 0
 ·have hnil : bl s = [] := List.eq_nil_of_length_eq_zero (by rw [Bj]; exact h0)
  have hE := ExpQ.no (l := bl s) (Zp (by rw [hnil]; simp)) (Below.refl w.heap.size w)
  have hz : s = ⟨#[]⟩ := by
   have := Tk s
   rw [hnil] at this
   exact this.symm
  clear hnil
  subst hz
  have HE := Lh hE
  clear hE h0 hs h2
  go_enter Tryz.func258, Tryz.ntmps258
  go_wp2
  refine bodyPost_ret (Bl rfl _ _ _) rfl ?_
  exact HE.out
 ·have hp : 0 < s.size := by omega
  obtain ⟨B, hB⟩ : ∃ B : Nat, (s[0]'hp).toNat = B := ⟨_, rfl⟩
  have hhd : (bl s).head? = some B := by rw [List.head?_eq_getElem?, Cg s 0 hp, hB]
  have a2 : (0 : Int) < (s.size : Int) := by omega
  have a3 : ((s[0]'hp).toNat : Int) = (B : Int) := by rw [hB]
  have hne := Kt (l := bl s) (by intro e; rw [e] at hhd; cases hhd)
  rw [Tk] at hne
  obtain ⟨n1, n2⟩ := hne
  by_cases hc : B = 101 ∨ B = 69
  ·have hx := Ahs (l := bl s) (by rw [hhd]; rcases hc with h | h <;> simp [h])
   have e1 : bl (s.extract 1 s.size) = (bl s).tail := by rw [Zr]; exact List.drop_one
   have C1 := Lh (Jo (s.extract 1 s.size) w)
   rw [e1] at C1
   obtain ⟨U, hU⟩ : ∃ U, unsg (bl s).tail = U := ⟨_, rfl⟩
   rw [hU] at C1 hx
   have hU2 : ∀ c ∈ U, c < 256 := fun c h => J7 s c (Ki c (Ag0 c (by rw [hU]; exact h)))
   have hU3 : U.length ≤ 4611686018427387903 := by
    have k1 := Adq (bl s).tail
    rw [hU, List.length_tail, Bj] at k1
    omega
   have C2 := Lh (Sy U w hU2 hU3)
   have hR := Br U
   have hRl := Cf U
   have hR2 : ∀ c ∈ Af U, c < 256 := fun c h => hU2 c (Zi c h)
   have hV : O6 (bl s) = if Ha (bl s).tail = true then -(amt (Af U) : Int) else (amt (Af U) : Int) := by unfold O6; rw [hU]
   have hT : expR (bl s) = Ai U := by unfold expR; rw [hU]
   obtain ⟨b, hb⟩ : ∃ b, Ha (bl s).tail = b := ⟨_, rfl⟩
   rw [hb] at C1 hV
   obtain ⟨R, hRR⟩ : ∃ R, Af U = R := ⟨_, rfl⟩
   rw [hRR] at C2 hR hRl hR2 hV hx
   have m1 : ∀ W, Cq 287 #[.string (s.extract 1 s.size)] (.tuple #[.float .f64 (sgF b : Nat), .string (Ad U)]) W := by
    intro W
    have := Jo (s.extract 1 s.size) W
    rw [e1, hU, hb] at this
    exact this
   by_cases hR0 : R = []
   ·have HE := Lh (fun w' => ExpQ.no (l := bl s) (w := w) (w' := w') (by rw [hx, hR0]; rfl))
    rw [hR0, Abf] at C2
    rw [show ByteArray.empty = (⟨#[]⟩ : ByteArray) from rfl] at C2
    obtain ⟨u, hu⟩ : ∃ u, Ad U = u := ⟨_, rfl⟩
    obtain ⟨v, hv⟩ : ∃ v, Ad (Ai U) = v := ⟨_, rfl⟩
    rw [hu] at C1 C2
    rw [hv] at C2
    clear hx e1 hU hU2 hU3 hR hRl hR2 hV hT hb hRR hR0 hu hv hhd hB hs m1 h0
    have t1 : ((B : Int) != 101 && (B : Int) != 69) = false := by rcases hc with rfl | rfl <;> rfl
    have t2 : (B = 101 ∧ ((B : Int) != 101) = false) ∨ (((B : Int) != 101) = true ∧ ((B : Int) != 69) = false) := by rcases hc with rfl | rfl <;> simp
    clear hc
    rcases t2 with ⟨_, t2⟩ | ⟨t2, t3⟩
    ·go_enter Tryz.func258, Tryz.ntmps258
     go_wp2_with fail
     refine C1.out.mono ?_
     rintro e w' ⟨rfl, rfl⟩
     go_wp2_with fail
     refine C2.out.mono ?_
     rintro e w' ⟨rfl, hbw⟩
     go_wp2
     refine bodyPost_ret (Bl rfl _ _ _) rfl ?_
     exact HE.out _ hbw
    ·go_enter Tryz.func258, Tryz.ntmps258
     go_wp2_with fail
     refine C1.out.mono ?_
     rintro e w' ⟨rfl, rfl⟩
     go_wp2_with fail
     refine C2.out.mono ?_
     rintro e w' ⟨rfl, hbw⟩
     go_wp2
     refine bodyPost_ret (Bl rfl _ _ _) rfl ?_
     exact HE.out _ hbw
   ·have HE := Lh (fun w' => ExpQ.yes (l := bl s) (w := w) (w' := w') (by rw [hx]; cases R with | nil => exact absurd rfl hR0 | cons => rfl))
    obtain ⟨r1, r2⟩ := Kt hR0
    have C3 := Lh (fun W => Vn (Ad R) W (by rw [Ak]; omega) (by rw [Al hR2]; exact hR))
    rw [Al hR2] at C3
    have hal := Gv R hR
    obtain ⟨N, hN⟩ : ∃ N, amt R = N := ⟨_, rfl⟩
    rw [hN] at C3 hal hV
    have K1 := Lh (Aib b)
    have a5 : IntKind.i64.wrap (sgI b * (N : Int)) = O6 (bl s) := by
     rw [hV]
     cases b
     ·rw [if_neg (by simp), show sgI false = 1 from rfl, IntWalk.i64_in _ (by omega)]; omega
     ·rw [if_pos rfl, show sgI true = -1 from rfl, IntWalk.i64_in _ (by omega)]; omega
    obtain ⟨X, hX⟩ : ∃ X, O6 (bl s) = X := ⟨_, rfl⟩
    rw [hX] at HE a5
    rw [hT] at HE
    obtain ⟨u, hu⟩ : ∃ u, Ad U = u := ⟨_, rfl⟩
    obtain ⟨v, hv⟩ : ∃ v, Ad (Ai U) = v := ⟨_, rfl⟩
    obtain ⟨f, hf⟩ : ∃ f, Ad R = f := ⟨_, rfl⟩
    rw [hu] at C1 C2
    rw [hv] at C2 HE
    rw [hf] at C2 C3 r1 r2
    have K1 := K1.out
    have t2 : (B = 101 ∧ ((B : Int) != 101) = false) ∨ (((B : Int) != 101) = true ∧ ((B : Int) != 69) = false) := by rcases hc with rfl | rfl <;> simp
    clear hx e1 hU hU2 hU3 hR hRl hR2 hV hT hb hRR hR0 hu hv hf hhd hB hs m1 h0 hc hN hal hX
    rcases t2 with ⟨_, t2⟩ | ⟨t2, t3⟩
    ·go_enter Tryz.func258, Tryz.ntmps258
     go_wp2_with fail
     refine C1.out.mono ?_
     rintro e w' ⟨rfl, rfl⟩
     go_wp2_with fail
     refine C2.out.mono ?_
     rintro e w' ⟨rfl, hbw⟩
     go_wp2_with fail
     refine Sm (C3.out _) ?_
     go_wp2
     refine bodyPost_ret (Bl rfl _ _ _) rfl ?_
     exact HE.out _ hbw
    ·go_enter Tryz.func258, Tryz.ntmps258
     go_wp2_with fail
     refine C1.out.mono ?_
     rintro e w' ⟨rfl, rfl⟩
     go_wp2_with fail
     refine C2.out.mono ?_
     rintro e w' ⟨rfl, hbw⟩
     go_wp2_with fail
     refine Sm (C3.out _) ?_
     go_wp2
     refine bodyPost_ret (Bl rfl _ _ _) rfl ?_
     exact HE.out _ hbw
  ·have HE := Lh (ExpQ.no (l := bl s) (Zp (by rw [hhd]; rintro (h | h) <;> exact hc (by simp at h; omega))) (Below.refl w.heap.size w))
   have t1 : ((B : Int) != 101) = true := by rw [bne_iff_ne]; omega
   have t2 : ((B : Int) != 69) = true := by rw [bne_iff_ne]; omega
   clear hhd hB hs hc h0
   go_enter Tryz.func258, Tryz.ntmps258
   go_wp2
   refine bodyPost_ret (Bl rfl _ _ _) rfl ?_
   exact HE.out


end
section
theorem Cc {B g : Nat} {a w : World} (h : Below B a w) (hg : B ≤ g) (c : Array Value) : Below B a (w.setRow g c) :=
 ⟨h.os, h.tape, h.output, by rw [setRow_size]; exact h.size, fun k hk => (setRow_other w g k c (by omega)).trans (h.block k hk)⟩
theorem Bi {fn : Func} {p t u : Tmp} {ty : TypeId} (h : fn.results = #[.cell p ty, .tmp t, .tmp u]) (tmps : Array Value) (P : Program) (w : World) (a : Addr) (v : Value) (ha : tmps.getD p undef = .pointer (some a)) (hl : (loadVar ty a).run P w = .ok v w) :
  (results fn tmps).run P w = .ok (.tuple #[v, tmps.getD t undef, tmps.getD u undef]) w := by
 simp only [results, h]
 simp [-Array.getD_eq_getD_getElem?, ha, asAddr, hl]
def Rc (w : World) (g : Nat) (a b c : Value) : Prop := w.heap[g]? = some (.cells #[a, b, c] 146 (0, 0))
theorem Rc.cells {w : World} {g : Nat} {a b c : Value} (h : Rc w g a b c) : w.cell? ⟨g, 0, none⟩ = some a ∧ w.cell? ⟨g, 1, none⟩ = some b ∧ w.cell? ⟨g, 2, none⟩ = some c ∧ (∀ k, w.frozen? ⟨g, k, none⟩ = false) := by
 unfold Rc at h
 refine ⟨by simp [World.cell?, h], by simp [World.cell?, h], by simp [World.cell?, h], fun k => by simp [World.frozen?, h]⟩
theorem Rc.below {w w' : World} {g B : Nat} {a b c : Value} (h : Rc w g a b c) (hb : Below B w w') (hg : g < B) : Rc w' g a b c := (hb.block g hg).trans h
theorem Rc.set0 {w : World} {g : Nat} {a b c : Value} (h : Rc w g a b c) (v : Value) : Rc (w.setCell ⟨g, 0, none⟩ v) g v b c := by
 have := heap_setCell_same w g 0 _ _ v h
 exact this
theorem Rc.set1 {w : World} {g : Nat} {a b c : Value} (h : Rc w g a b c) (v : Value) : Rc (w.setCell ⟨g, 1, none⟩ v) g a v c := by
 have := heap_setCell_same w g 1 _ _ v h
 exact this
theorem Rc.set2 {w : World} {g : Nat} {a b c : Value} (h : Rc w g a b c) (v : Value) : Rc (w.setCell ⟨g, 2, none⟩ v) g a b v := by
 have := heap_setCell_same w g 2 _ _ v h
 exact this
theorem Rc.other {w : World} {g k i : Nat} {a b c v : Value} (h : Rc w g a b c) (hk : g ≠ k) : Rc (w.setCell ⟨k, i, none⟩ v) g a b c := (heap_setCell_other w ⟨k, i, none⟩ g v hk).trans h
def zs : Value := .string ⟨#[]⟩
structure Rd (W w : World) (a b c : Value) : Prop where
 lo : Rc w W.heap.size zs zs (.int .i64 0)
 hi : Rc w (W.heap.size + 1) a b c
 bw : Below W.heap.size W w
 sz : W.heap.size + 2 ≤ w.heap.size
theorem Rd.start (W : World) : Rd W ((W.alloc (.cells #[zs, zs, .int .i64 0] 146)).alloc (.cells #[zs, zs, .int .i64 0] 146)) zs zs (.int .i64 0) := by
 obtain ⟨V, hV⟩ : ∃ V, W.alloc (.cells #[zs, zs, .int .i64 0] 146) = V := ⟨_, rfl⟩
 have hs : V.heap.size = W.heap.size + 1 := by rw [← hV]; simp
 have h1 : Rc V W.heap.size zs zs (.int .i64 0) := by rw [← hV]; exact heap_alloc_last W _
 have b1 : Below W.heap.size W V := by rw [← hV]; exact (Below.refl _ _).alloc (Nat.le_refl _) _
 have b2 : Below V.heap.size V (V.alloc (.cells #[zs, zs, .int .i64 0] 146)) := (Below.refl _ _).alloc (Nat.le_refl _) _
 rw [hV]
 refine ⟨h1.below b2 (by omega), ?_, Aa b1 b2, by simp; omega⟩
 rw [← hs]
 exact heap_alloc_last V _
theorem Rd.step {W w w' : World} {a b c : Value} (h : Rd W w a b c) (hb : Below w.heap.size w w') : Rd W w' a b c :=
 ⟨h.lo.below hb (by have := h.sz; omega), h.hi.below hb (by have := h.sz; omega), Aa h.bw hb, Nat.le_trans h.sz hb.size⟩
theorem Rd.put0 {W w : World} {a b c : Value} (h : Rd W w a b c) (v : Value) : Rd W (w.setCell ⟨W.heap.size + 1, 0, none⟩ v) v b c :=
 ⟨h.lo.other (by omega), h.hi.set0 v, h.bw.setCell (by show W.heap.size ≤ W.heap.size + 1; omega) _, by simp only [World.setCell, Array.size_modify]; exact h.sz⟩
theorem Rd.put1 {W w : World} {a b c : Value} (h : Rd W w a b c) (v : Value) : Rd W (w.setCell ⟨W.heap.size + 1, 1, none⟩ v) a v c :=
 ⟨h.lo.other (by omega), h.hi.set1 v, h.bw.setCell (by show W.heap.size ≤ W.heap.size + 1; omega) _, by simp only [World.setCell, Array.size_modify]; exact h.sz⟩
theorem Rd.put2 {W w : World} {a b c : Value} (h : Rd W w a b c) (v : Value) : Rd W (w.setCell ⟨W.heap.size + 1, 2, none⟩ v) a b v :=
 ⟨h.lo.other (by omega), h.hi.set2 v, h.bw.setCell (by show W.heap.size ≤ W.heap.size + 1; omega) _, by simp only [World.setCell, Array.size_modify]; exact h.sz⟩
theorem Kj (s : ByteArray) (w : World) (S1 : ByteArray)
   (C1 : Hid (∀ W, Ct 254 #[.string s, .int .i64 10] (.tuple #[.string ⟨#[]⟩, .string S1]) W))
   (C2 : Hid (∀ W, Cq 257 #[.string S1, .string ⟨#[46]⟩] (.tuple #[.string S1, .bool false]) W)) :
    Cp 199 #[.string s] w (fun e w' => e = .returned (.tuple #[.agg #[.string ⟨#[]⟩, .string ⟨#[]⟩, .int .i64 0], .string ⟨#[]⟩, .bool false]) ∧ Below w.heap.size w w') := by
  have R0 := Lh (Rd.start w)
  go_enter Tryz.func199, Tryz.ntmps199
  go_wp2_with fail
  refine Bm (C1.out _) fun w1 hb1 => ?_
  have R1 := Lh (R0.out.step hb1)
  obtain ⟨c0, c1, c2, fz⟩ := R1.out.hi.cells
  have f0 := fz 0
  clear fz hb1
  go_wp2_with fail
  refine (C2.out _).mono ?_
  rintro e w2 ⟨rfl, rfl⟩
  have R2 := Lh (R1.out.put0 (.string ⟨#[]⟩))
  generalize w1.setCell ⟨w.heap.size + 1, 0, none⟩ (.string ⟨#[]⟩) = w2 at *
  clear c0 c1 c2 f0
  obtain ⟨c0, c1, c2, fz⟩ := R2.out.hi.cells
  have f0 := fz 0
  clear fz
  unfold zs at c1
  have HG := Lh (show w2.heap[w.heap.size]? = some (.cells #[.string ⟨#[]⟩, .string ⟨#[]⟩, .int .i64 0] 146 (0, 0)) from R2.out.lo)
  have HB := Lh R2.out.bw
  go_wp2_with (first | (refine wpList_store_row rfl 146 _ _ rfl w.heap.size #[.string ⟨#[]⟩, .string ⟨#[]⟩, .int .i64 0] rfl rfl 146 #[.string ⟨#[]⟩, .string ⟨#[]⟩, .int .i64 0] HG.out (by first | kernel_rfl | rfl) rfl (by first | kernel_rfl | rfl) ?_))
  exact bodyPost_ret (Bi rfl _ _ _ _ _ rfl (run_loadVar_row _ w.heap.size 146 146 _ (0, 0) _ (setRow_heap _ _ _ _ _ _ HG.out) Tryz.underlying146 rfl (by first | kernel_rfl | rfl))) rfl ⟨rfl, Cc HB.out (Nat.le_refl _) _⟩
theorem Ig (s : ByteArray) (w : World) (Wt S1 t0 Rt : ByteArray) (X : Int) (n2 : Wt.toList.isEmpty = false)
   (C1 : Hid (∀ W, Ct 254 #[.string s, .int .i64 10] (.tuple #[.string Wt, .string S1]) W))
   (C2 : Hid (∀ W, Cq 257 #[.string S1, .string ⟨#[46]⟩] (.tuple #[.string t0, .bool false]) W))
   (C3 : Hid (∀ W, Ct 258 #[.string S1] (.tuple #[.int .i64 X, .string Rt, .bool false]) W)) :
    Cp 199 #[.string s] w (fun e w' => e = .returned (.tuple #[.agg #[.string Wt, .string ⟨#[]⟩, .int .i64 0], .string S1, .bool true]) ∧ Below w.heap.size w w') := by
  have R0 := Lh (Rd.start w)
  go_enter Tryz.func199, Tryz.ntmps199
  go_wp2_with fail
  refine Bm (C1.out _) fun w1 hb1 => ?_
  have R1 := Lh (R0.out.step hb1)
  clear hb1
  obtain ⟨c0, c1, c2, fz⟩ := R1.out.hi.cells
  have f0 := fz 0
  have f1 := fz 1
  have f2 := fz 2
  clear fz
  try unfold zs at c0
  try unfold zs at c1
  go_wp2_with fail
  refine (C2.out _).mono ?_
  rintro e w2 ⟨rfl, rfl⟩
  have R2 := Lh (R1.out.put0 (.string Wt))
  generalize w1.setCell ⟨w.heap.size + 1, 0, none⟩ (.string Wt) = w2 at *
  clear c0 c1 c2 f0 f1 f2
  obtain ⟨c0, c1, c2, fz⟩ := R2.out.hi.cells
  have f0 := fz 0
  have f1 := fz 1
  have f2 := fz 2
  clear fz
  try unfold zs at c0
  try unfold zs at c1
  go_wp2_with fail
  refine Bm (C3.out _) fun w3 hb3 => ?_
  have R3 := Lh (R2.out.step hb3)
  clear hb3 c0 c1 c2 f0 f1 f2
  obtain ⟨c0, c1, c2, fz⟩ := R3.out.hi.cells
  have f0 := fz 0
  have f1 := fz 1
  have f2 := fz 2
  clear fz
  try unfold zs at c0
  try unfold zs at c1
  have HG := Lh (show w3.heap[w.heap.size]? = some (.cells #[.string ⟨#[]⟩, .string ⟨#[]⟩, .int .i64 0] 146 (0, 0)) from R3.out.lo)
  have HB := Lh R3.out.bw
  go_wp2_with (first | (refine wpList_store_row rfl 146 _ _ rfl w.heap.size #[.string Wt, .string ⟨#[]⟩, .int .i64 0] rfl rfl 146 #[.string ⟨#[]⟩, .string ⟨#[]⟩, .int .i64 0] HG.out (by first | kernel_rfl | rfl) rfl (by first | kernel_rfl | rfl) ?_))
  exact bodyPost_ret (Bi rfl _ _ _ _ _ rfl (run_loadVar_row _ w.heap.size 146 146 _ (0, 0) _ (setRow_heap _ _ _ _ _ _ HG.out) Tryz.underlying146 rfl (by first | kernel_rfl | rfl))) rfl ⟨rfl, Cc HB.out (Nat.le_refl _) _⟩
theorem Ix (s : ByteArray) (w : World) (Wt S1 t0 Rt : ByteArray) (X : Int) (n2 : Wt.toList.isEmpty = false)
   (C1 : Hid (∀ W, Ct 254 #[.string s, .int .i64 10] (.tuple #[.string Wt, .string S1]) W))
   (C2 : Hid (∀ W, Cq 257 #[.string S1, .string ⟨#[46]⟩] (.tuple #[.string t0, .bool false]) W))
   (C3 : Hid (∀ W, Ct 258 #[.string S1] (.tuple #[.int .i64 X, .string Rt, .bool true]) W)) :
    Cp 199 #[.string s] w (fun e w' => e = .returned (.tuple #[.agg #[.string Wt, .string ⟨#[]⟩, .int .i64 X], .string Rt, .bool true]) ∧ Below w.heap.size w w') := by
  have R0 := Lh (Rd.start w)
  go_enter Tryz.func199, Tryz.ntmps199
  go_wp2_with fail
  refine Bm (C1.out _) fun w1 hb1 => ?_
  have R1 := Lh (R0.out.step hb1)
  clear hb1
  obtain ⟨c0, c1, c2, fz⟩ := R1.out.hi.cells
  have f0 := fz 0
  have f1 := fz 1
  have f2 := fz 2
  clear fz
  try unfold zs at c0
  try unfold zs at c1
  go_wp2_with fail
  refine (C2.out _).mono ?_
  rintro e w2 ⟨rfl, rfl⟩
  have R2 := Lh (R1.out.put0 (.string Wt))
  generalize w1.setCell ⟨w.heap.size + 1, 0, none⟩ (.string Wt) = w2 at *
  clear c0 c1 c2 f0 f1 f2
  obtain ⟨c0, c1, c2, fz⟩ := R2.out.hi.cells
  have f0 := fz 0
  have f1 := fz 1
  have f2 := fz 2
  clear fz
  try unfold zs at c0
  try unfold zs at c1
  go_wp2_with fail
  refine Bm (C3.out _) fun w3 hb3 => ?_
  have R3 := Lh (R2.out.step hb3)
  clear hb3 c0 c1 c2 f0 f1 f2
  obtain ⟨c0, c1, c2, fz⟩ := R3.out.hi.cells
  have f0 := fz 0
  have f1 := fz 1
  have f2 := fz 2
  clear fz
  try unfold zs at c0
  try unfold zs at c1
  have HR := Lh (R3.out.put2 (.int .i64 X))
  have HG := Lh (show (w3.setCell ⟨w.heap.size + 1, 2, none⟩ (.int .i64 X)).heap[w.heap.size]? = some (.cells #[.string ⟨#[]⟩, .string ⟨#[]⟩, .int .i64 0] 146 (0, 0)) from HR.out.lo)
  have HB := Lh HR.out.bw
  obtain ⟨d0, d1, d2, _⟩ := HR.out.hi.cells
  try unfold zs at d1
  go_wp2_with (first | (refine wpList_store_row rfl 146 _ _ rfl w.heap.size #[.string Wt, .string ⟨#[]⟩, .int .i64 X] rfl rfl 146 #[.string ⟨#[]⟩, .string ⟨#[]⟩, .int .i64 0] HG.out (by first | kernel_rfl | rfl) rfl (by first | kernel_rfl | rfl) ?_))
  exact bodyPost_ret (Bi rfl _ _ _ _ _ rfl (run_loadVar_row _ w.heap.size 146 146 _ (0, 0) _ (setRow_heap _ _ _ _ _ _ HG.out) Tryz.underlying146 rfl (by first | kernel_rfl | rfl))) rfl ⟨rfl, Cc HB.out (Nat.le_refl _) _⟩
theorem Hf (s : ByteArray) (w : World) (Wt S1 S2 Bt Ft Rt : ByteArray) (X : Int) (n2 : Wt.toList.isEmpty = false)
   (C1 : Hid (∀ W, Ct 254 #[.string s, .int .i64 10] (.tuple #[.string Wt, .string S1]) W))
   (C2 : Hid (∀ W, Cq 257 #[.string S1, .string ⟨#[46]⟩] (.tuple #[.string Bt, .bool true]) W))
   (C4 : Hid (∀ W, Ct 254 #[.string Bt, .int .i64 10] (.tuple #[.string Ft, .string S2]) W))
   (C3 : Hid (∀ W, Ct 258 #[.string S2] (.tuple #[.int .i64 X, .string Rt, .bool false]) W)) :
    Cp 199 #[.string s] w (fun e w' => e = .returned (.tuple #[.agg #[.string Wt, .string Ft, .int .i64 0], .string S2, .bool true]) ∧ Below w.heap.size w w') := by
  have R0 := Lh (Rd.start w)
  go_enter Tryz.func199, Tryz.ntmps199
  go_wp2_with fail
  refine Bm (C1.out _) fun w1 hb1 => ?_
  have R1 := Lh (R0.out.step hb1)
  clear hb1
  obtain ⟨c0, c1, c2, fz⟩ := R1.out.hi.cells
  have f0 := fz 0
  have f1 := fz 1
  have f2 := fz 2
  clear fz
  try unfold zs at c0
  try unfold zs at c1
  go_wp2_with fail
  refine (C2.out _).mono ?_
  rintro e w2 ⟨rfl, rfl⟩
  have R2 := Lh (R1.out.put0 (.string Wt))
  generalize w1.setCell ⟨w.heap.size + 1, 0, none⟩ (.string Wt) = w2 at *
  clear c0 c1 c2 f0 f1 f2
  obtain ⟨c0, c1, c2, fz⟩ := R2.out.hi.cells
  have f0 := fz 0
  have f1 := fz 1
  have f2 := fz 2
  clear fz
  try unfold zs at c0
  try unfold zs at c1
  go_wp2_with fail
  refine Bm (C4.out _) fun w3 hb3 => ?_
  have R3 := Lh (R2.out.step hb3)
  clear hb3 c0 c1 c2 f0 f1 f2
  obtain ⟨c0, c1, c2, fz⟩ := R3.out.hi.cells
  have f0 := fz 0
  have f1 := fz 1
  have f2 := fz 2
  clear fz
  try unfold zs at c0
  try unfold zs at c1
  have R4 := Lh (R3.out.put1 (.string Ft))
  obtain ⟨e0, e1, e2, ez⟩ := R4.out.hi.cells
  have g0 := ez 0
  have g1 := ez 1
  have g2 := ez 2
  clear ez
  go_wp2_with fail
  refine Bm (C3.out _) fun w5 hb5 => ?_
  have R5 := Lh (R4.out.step hb5)
  clear hb5 c0 c1 c2 f0 f1 f2
  obtain ⟨c0, c1, c2, fz⟩ := R5.out.hi.cells
  have f0 := fz 0
  have f1 := fz 1
  have f2 := fz 2
  clear fz
  try unfold zs at c0
  try unfold zs at c1
  have HG := Lh (show w5.heap[w.heap.size]? = some (.cells #[.string ⟨#[]⟩, .string ⟨#[]⟩, .int .i64 0] 146 (0, 0)) from R5.out.lo)
  have HB := Lh R5.out.bw
  go_wp2_with (first | (refine wpList_store_row rfl 146 _ _ rfl w.heap.size #[.string Wt, .string Ft, .int .i64 0] rfl rfl 146 #[.string ⟨#[]⟩, .string ⟨#[]⟩, .int .i64 0] HG.out (by first | kernel_rfl | rfl) rfl (by first | kernel_rfl | rfl) ?_))
  exact bodyPost_ret (Bi rfl _ _ _ _ _ rfl (run_loadVar_row _ w.heap.size 146 146 _ (0, 0) _ (setRow_heap _ _ _ _ _ _ HG.out) Tryz.underlying146 rfl (by first | kernel_rfl | rfl))) rfl ⟨rfl, Cc HB.out (Nat.le_refl _) _⟩
theorem Ik (s : ByteArray) (w : World) (Wt S1 S2 Bt Ft Rt : ByteArray) (X : Int) (n2 : Wt.toList.isEmpty = false)
   (C1 : Hid (∀ W, Ct 254 #[.string s, .int .i64 10] (.tuple #[.string Wt, .string S1]) W))
   (C2 : Hid (∀ W, Cq 257 #[.string S1, .string ⟨#[46]⟩] (.tuple #[.string Bt, .bool true]) W))
   (C4 : Hid (∀ W, Ct 254 #[.string Bt, .int .i64 10] (.tuple #[.string Ft, .string S2]) W))
   (C3 : Hid (∀ W, Ct 258 #[.string S2] (.tuple #[.int .i64 X, .string Rt, .bool true]) W)) :
    Cp 199 #[.string s] w (fun e w' => e = .returned (.tuple #[.agg #[.string Wt, .string Ft, .int .i64 X], .string Rt, .bool true]) ∧ Below w.heap.size w w') := by
  have R0 := Lh (Rd.start w)
  go_enter Tryz.func199, Tryz.ntmps199
  go_wp2_with fail
  refine Bm (C1.out _) fun w1 hb1 => ?_
  have R1 := Lh (R0.out.step hb1)
  clear hb1
  obtain ⟨c0, c1, c2, fz⟩ := R1.out.hi.cells
  have f0 := fz 0
  have f1 := fz 1
  have f2 := fz 2
  clear fz
  try unfold zs at c0
  try unfold zs at c1
  go_wp2_with fail
  refine (C2.out _).mono ?_
  rintro e w2 ⟨rfl, rfl⟩
  have R2 := Lh (R1.out.put0 (.string Wt))
  generalize w1.setCell ⟨w.heap.size + 1, 0, none⟩ (.string Wt) = w2 at *
  clear c0 c1 c2 f0 f1 f2
  obtain ⟨c0, c1, c2, fz⟩ := R2.out.hi.cells
  have f0 := fz 0
  have f1 := fz 1
  have f2 := fz 2
  clear fz
  try unfold zs at c0
  try unfold zs at c1
  go_wp2_with fail
  refine Bm (C4.out _) fun w3 hb3 => ?_
  have R3 := Lh (R2.out.step hb3)
  clear hb3 c0 c1 c2 f0 f1 f2
  obtain ⟨c0, c1, c2, fz⟩ := R3.out.hi.cells
  have f0 := fz 0
  have f1 := fz 1
  have f2 := fz 2
  clear fz
  try unfold zs at c0
  try unfold zs at c1
  have R4 := Lh (R3.out.put1 (.string Ft))
  obtain ⟨e0, e1, e2, ez⟩ := R4.out.hi.cells
  have g0 := ez 0
  have g1 := ez 1
  have g2 := ez 2
  clear ez
  go_wp2_with fail
  refine Bm (C3.out _) fun w5 hb5 => ?_
  have R5 := Lh (R4.out.step hb5)
  clear hb5 c0 c1 c2 f0 f1 f2
  obtain ⟨c0, c1, c2, fz⟩ := R5.out.hi.cells
  have f0 := fz 0
  have f1 := fz 1
  have f2 := fz 2
  clear fz
  try unfold zs at c0
  try unfold zs at c1
  have HR := Lh (R5.out.put2 (.int .i64 X))
  have HG := Lh (show (w5.setCell ⟨w.heap.size + 1, 2, none⟩ (.int .i64 X)).heap[w.heap.size]? = some (.cells #[.string ⟨#[]⟩, .string ⟨#[]⟩, .int .i64 0] 146 (0, 0)) from HR.out.lo)
  have HB := Lh HR.out.bw
  obtain ⟨d0, d1, d2, _⟩ := HR.out.hi.cells
  try unfold zs at d1
  go_wp2_with (first | (refine wpList_store_row rfl 146 _ _ rfl w.heap.size #[.string Wt, .string Ft, .int .i64 X] rfl rfl 146 #[.string ⟨#[]⟩, .string ⟨#[]⟩, .int .i64 0] HG.out (by first | kernel_rfl | rfl) rfl (by first | kernel_rfl | rfl) ?_))
  exact bodyPost_ret (Bi rfl _ _ _ _ _ rfl (run_loadVar_row _ w.heap.size 146 146 _ (0, 0) _ (setRow_heap _ _ _ _ _ _ HG.out) Tryz.underlying146 rfl (by first | kernel_rfl | rfl))) rfl ⟨rfl, Cc HB.out (Nat.le_refl _) _⟩
theorem Hh (s : ByteArray) (w : World) (S1 S2 Bt Ft Rt : ByteArray) (X : Int) (m2 : Ft.toList.isEmpty = false)
   (C1 : Hid (∀ W, Ct 254 #[.string s, .int .i64 10] (.tuple #[.string ⟨#[]⟩, .string S1]) W))
   (C2 : Hid (∀ W, Cq 257 #[.string S1, .string ⟨#[46]⟩] (.tuple #[.string Bt, .bool true]) W))
   (C4 : Hid (∀ W, Ct 254 #[.string Bt, .int .i64 10] (.tuple #[.string Ft, .string S2]) W))
   (C3 : Hid (∀ W, Ct 258 #[.string S2] (.tuple #[.int .i64 X, .string Rt, .bool false]) W)) :
    Cp 199 #[.string s] w (fun e w' => e = .returned (.tuple #[.agg #[.string ⟨#[]⟩, .string Ft, .int .i64 0], .string S2, .bool true]) ∧ Below w.heap.size w w') := by
  have R0 := Lh (Rd.start w)
  go_enter Tryz.func199, Tryz.ntmps199
  go_wp2_with fail
  refine Bm (C1.out _) fun w1 hb1 => ?_
  have R1 := Lh (R0.out.step hb1)
  clear hb1
  obtain ⟨c0, c1, c2, fz⟩ := R1.out.hi.cells
  have f0 := fz 0
  have f1 := fz 1
  have f2 := fz 2
  clear fz
  try unfold zs at c0
  try unfold zs at c1
  go_wp2_with fail
  refine (C2.out _).mono ?_
  rintro e w2 ⟨rfl, rfl⟩
  have R2 := Lh (R1.out.put0 (.string ⟨#[]⟩))
  generalize w1.setCell ⟨w.heap.size + 1, 0, none⟩ (.string ⟨#[]⟩) = w2 at *
  clear c0 c1 c2 f0 f1 f2
  obtain ⟨c0, c1, c2, fz⟩ := R2.out.hi.cells
  have f0 := fz 0
  have f1 := fz 1
  have f2 := fz 2
  clear fz
  try unfold zs at c0
  try unfold zs at c1
  go_wp2_with fail
  refine Bm (C4.out _) fun w3 hb3 => ?_
  have R3 := Lh (R2.out.step hb3)
  clear hb3 c0 c1 c2 f0 f1 f2
  obtain ⟨c0, c1, c2, fz⟩ := R3.out.hi.cells
  have f0 := fz 0
  have f1 := fz 1
  have f2 := fz 2
  clear fz
  try unfold zs at c0
  try unfold zs at c1
  have R4 := Lh (R3.out.put1 (.string Ft))
  obtain ⟨e0, e1, e2, ez⟩ := R4.out.hi.cells
  have g0 := ez 0
  have g1 := ez 1
  have g2 := ez 2
  clear ez
  go_wp2_with fail
  refine Bm (C3.out _) fun w5 hb5 => ?_
  have R5 := Lh (R4.out.step hb5)
  clear hb5 c0 c1 c2 f0 f1 f2
  obtain ⟨c0, c1, c2, fz⟩ := R5.out.hi.cells
  have f0 := fz 0
  have f1 := fz 1
  have f2 := fz 2
  clear fz
  try unfold zs at c0
  try unfold zs at c1
  have HG := Lh (show w5.heap[w.heap.size]? = some (.cells #[.string ⟨#[]⟩, .string ⟨#[]⟩, .int .i64 0] 146 (0, 0)) from R5.out.lo)
  have HB := Lh R5.out.bw
  go_wp2_with (first | (refine wpList_store_row rfl 146 _ _ rfl w.heap.size #[.string ⟨#[]⟩, .string Ft, .int .i64 0] rfl rfl 146 #[.string ⟨#[]⟩, .string ⟨#[]⟩, .int .i64 0] HG.out (by first | kernel_rfl | rfl) rfl (by first | kernel_rfl | rfl) ?_))
  exact bodyPost_ret (Bi rfl _ _ _ _ _ rfl (run_loadVar_row _ w.heap.size 146 146 _ (0, 0) _ (setRow_heap _ _ _ _ _ _ HG.out) Tryz.underlying146 rfl (by first | kernel_rfl | rfl))) rfl ⟨rfl, Cc HB.out (Nat.le_refl _) _⟩
theorem Ii (s : ByteArray) (w : World) (S1 S2 Bt Ft Rt : ByteArray) (X : Int) (m2 : Ft.toList.isEmpty = false)
   (C1 : Hid (∀ W, Ct 254 #[.string s, .int .i64 10] (.tuple #[.string ⟨#[]⟩, .string S1]) W))
   (C2 : Hid (∀ W, Cq 257 #[.string S1, .string ⟨#[46]⟩] (.tuple #[.string Bt, .bool true]) W))
   (C4 : Hid (∀ W, Ct 254 #[.string Bt, .int .i64 10] (.tuple #[.string Ft, .string S2]) W))
   (C3 : Hid (∀ W, Ct 258 #[.string S2] (.tuple #[.int .i64 X, .string Rt, .bool true]) W)) :
    Cp 199 #[.string s] w (fun e w' => e = .returned (.tuple #[.agg #[.string ⟨#[]⟩, .string Ft, .int .i64 X], .string Rt, .bool true]) ∧ Below w.heap.size w w') := by
  have R0 := Lh (Rd.start w)
  go_enter Tryz.func199, Tryz.ntmps199
  go_wp2_with fail
  refine Bm (C1.out _) fun w1 hb1 => ?_
  have R1 := Lh (R0.out.step hb1)
  clear hb1
  obtain ⟨c0, c1, c2, fz⟩ := R1.out.hi.cells
  have f0 := fz 0
  have f1 := fz 1
  have f2 := fz 2
  clear fz
  try unfold zs at c0
  try unfold zs at c1
  go_wp2_with fail
  refine (C2.out _).mono ?_
  rintro e w2 ⟨rfl, rfl⟩
  have R2 := Lh (R1.out.put0 (.string ⟨#[]⟩))
  generalize w1.setCell ⟨w.heap.size + 1, 0, none⟩ (.string ⟨#[]⟩) = w2 at *
  clear c0 c1 c2 f0 f1 f2
  obtain ⟨c0, c1, c2, fz⟩ := R2.out.hi.cells
  have f0 := fz 0
  have f1 := fz 1
  have f2 := fz 2
  clear fz
  try unfold zs at c0
  try unfold zs at c1
  go_wp2_with fail
  refine Bm (C4.out _) fun w3 hb3 => ?_
  have R3 := Lh (R2.out.step hb3)
  clear hb3 c0 c1 c2 f0 f1 f2
  obtain ⟨c0, c1, c2, fz⟩ := R3.out.hi.cells
  have f0 := fz 0
  have f1 := fz 1
  have f2 := fz 2
  clear fz
  try unfold zs at c0
  try unfold zs at c1
  have R4 := Lh (R3.out.put1 (.string Ft))
  obtain ⟨e0, e1, e2, ez⟩ := R4.out.hi.cells
  have g0 := ez 0
  have g1 := ez 1
  have g2 := ez 2
  clear ez
  go_wp2_with fail
  refine Bm (C3.out _) fun w5 hb5 => ?_
  have R5 := Lh (R4.out.step hb5)
  clear hb5 c0 c1 c2 f0 f1 f2
  obtain ⟨c0, c1, c2, fz⟩ := R5.out.hi.cells
  have f0 := fz 0
  have f1 := fz 1
  have f2 := fz 2
  clear fz
  try unfold zs at c0
  try unfold zs at c1
  have HR := Lh (R5.out.put2 (.int .i64 X))
  have HG := Lh (show (w5.setCell ⟨w.heap.size + 1, 2, none⟩ (.int .i64 X)).heap[w.heap.size]? = some (.cells #[.string ⟨#[]⟩, .string ⟨#[]⟩, .int .i64 0] 146 (0, 0)) from HR.out.lo)
  have HB := Lh HR.out.bw
  obtain ⟨d0, d1, d2, _⟩ := HR.out.hi.cells
  try unfold zs at d1
  go_wp2_with (first | (refine wpList_store_row rfl 146 _ _ rfl w.heap.size #[.string ⟨#[]⟩, .string Ft, .int .i64 X] rfl rfl 146 #[.string ⟨#[]⟩, .string ⟨#[]⟩, .int .i64 0] HG.out (by first | kernel_rfl | rfl) rfl (by first | kernel_rfl | rfl) ?_))
  exact bodyPost_ret (Bi rfl _ _ _ _ _ rfl (run_loadVar_row _ w.heap.size 146 146 _ (0, 0) _ (setRow_heap _ _ _ _ _ _ HG.out) Tryz.underlying146 rfl (by first | kernel_rfl | rfl))) rfl ⟨rfl, Cc HB.out (Nat.le_refl _) _⟩
theorem L5 (s : ByteArray) (w : World) (S1 S2 Bt : ByteArray)
   (C1 : Hid (∀ W, Ct 254 #[.string s, .int .i64 10] (.tuple #[.string ⟨#[]⟩, .string S1]) W))
   (C2 : Hid (∀ W, Cq 257 #[.string S1, .string ⟨#[46]⟩] (.tuple #[.string Bt, .bool true]) W))
   (C4 : Hid (∀ W, Ct 254 #[.string Bt, .int .i64 10] (.tuple #[.string ⟨#[]⟩, .string S2]) W)) :
    Cp 199 #[.string s] w (fun e w' => e = .returned (.tuple #[.agg #[.string ⟨#[]⟩, .string ⟨#[]⟩, .int .i64 0], .string ⟨#[]⟩, .bool false]) ∧ Below w.heap.size w w') := by
  have R0 := Lh (Rd.start w)
  go_enter Tryz.func199, Tryz.ntmps199
  go_wp2_with fail
  refine Bm (C1.out _) fun w1 hb1 => ?_
  have R1 := Lh (R0.out.step hb1)
  clear hb1
  obtain ⟨c0, c1, c2, fz⟩ := R1.out.hi.cells
  have f0 := fz 0
  have f1 := fz 1
  have f2 := fz 2
  clear fz
  try unfold zs at c0
  try unfold zs at c1
  go_wp2_with fail
  refine (C2.out _).mono ?_
  rintro e w2 ⟨rfl, rfl⟩
  have R2 := Lh (R1.out.put0 (.string ⟨#[]⟩))
  generalize w1.setCell ⟨w.heap.size + 1, 0, none⟩ (.string ⟨#[]⟩) = w2 at *
  clear c0 c1 c2 f0 f1 f2
  obtain ⟨c0, c1, c2, fz⟩ := R2.out.hi.cells
  have f0 := fz 0
  have f1 := fz 1
  have f2 := fz 2
  clear fz
  try unfold zs at c0
  try unfold zs at c1
  go_wp2_with fail
  refine Bm (C4.out _) fun w3 hb3 => ?_
  have R3 := Lh (R2.out.step hb3)
  clear hb3 c0 c1 c2 f0 f1 f2
  obtain ⟨c0, c1, c2, fz⟩ := R3.out.hi.cells
  have f0 := fz 0
  have f1 := fz 1
  have f2 := fz 2
  clear fz
  try unfold zs at c0
  try unfold zs at c1
  have HG := Lh (show w3.heap[w.heap.size]? = some (.cells #[.string ⟨#[]⟩, .string ⟨#[]⟩, .int .i64 0] 146 (0, 0)) from R3.out.lo)
  have HB := Lh R3.out.bw
  go_wp2_with (first | (refine wpList_store_row rfl 146 _ _ rfl w.heap.size #[.string ⟨#[]⟩, .string ⟨#[]⟩, .int .i64 0] rfl rfl 146 #[.string ⟨#[]⟩, .string ⟨#[]⟩, .int .i64 0] HG.out (by first | kernel_rfl | rfl) rfl (by first | kernel_rfl | rfl) ?_))
  exact bodyPost_ret (Bi rfl _ _ _ _ _ rfl (run_loadVar_row _ w.heap.size 146 146 _ (0, 0) _ (setRow_heap _ _ _ _ _ _ HG.out) Tryz.underlying146 rfl (by first | kernel_rfl | rfl))) rfl ⟨rfl, Cc HB.out (Nat.le_refl _) _⟩


end
section
theorem Sg {l : List Nat} {w w' : World} {e : Ending} (h : ExpQ l w e w') (hb : Dq l = false) : e = .returned (.tuple #[.int .i64 0, .string ⟨#[]⟩, .bool false]) ∧ Below w.heap.size w w' := by
 obtain ⟨h1, h2⟩ := h
 refine ⟨?_, h2⟩
 rw [h1]
 unfold exV
 rw [hb, if_neg (by simp), if_neg (by simp)]
 rfl
theorem Ni {l : List Nat} {w w' : World} {e : Ending} (h : ExpQ l w e w') (hb : Dq l = true) : e = .returned (.tuple #[.int .i64 (O6 l), .string (Ad (expR l)), .bool true]) ∧ Below w.heap.size w w' := by
 obtain ⟨h1, h2⟩ := h
 refine ⟨?_, h2⟩
 rw [h1]
 unfold exV
 rw [hb, if_pos rfl, if_pos rfl]
def Ajj (l : List Nat) (w : World) (e : Ending) (w' : World) : Prop :=
 e = .returned (.tuple #[.agg #[.string (Ad (dW l)), .string (Ad (dF l)), .int .i64 (dX l)], .string (Ad (dR l)), .bool true]) ∧ Below w.heap.size w w'
theorem Lx (s : ByteArray) (w : World) (hs : s.size ≤ 4611686018427387903) (h : dB (bl s) = true) : Cp 199 #[.string s] w (Ajj (bl s) w) := by
 obtain ⟨l, hl⟩ : ∃ l, bl s = l := ⟨_, rfl⟩
 have hlt := J7 s
 have hlen := Bj s
 rw [hl] at h hlt hlen ⊢
 have hA : ∀ c ∈ Ai l, c < 256 := fun c hc => hlt c (Rj c hc)
 have hAl := Cf l
 have C1 := fun W => Eb s 10 W (by omega) hs
 rw [hl, Xj] at C1
 have C2 := fun W => Ra (Ad (Ai l)) 46 W
 rw [Al hA] at C2
 have e2 : ((Ai l).head? == some (46 : UInt8).toNat) = Fz (Ai l) := rfl
 rw [e2] at C2
 have key : ∀ T : List Nat, (∀ c ∈ T, c < 256) → T.length ≤ 4611686018427387903 → ∀ W, Cp 258 #[.string (Ad T)] W (ExpQ T W) := by
  intro T h1 h2 W
  have := Lo (Ad T) W (by rw [Ak]; exact h2)
  rw [Al h1] at this
  exact this
 have ne : ∀ R : List Nat, R ≠ [] → (Ad R).toList.isEmpty = false := fun R hR => (Kt hR).2
 cases hd : Fz (Ai l)
 ·rw [hd] at C2
  have hF : dF l = [] := by unfold dF; rw [hd, if_neg (by simp)]
  have hT : dT l = Ai l := by unfold dT; rw [hd, if_neg (by simp)]
  have hW : dW l ≠ [] := by
   intro e
   unfold dB at h
   rw [hF, e] at h
   simp at h
  have C3 := key (Ai l) hA (by omega)
  unfold Ajj
  have hX : dX l = exV (Ai l) := by unfold dX; rw [hT]
  have hR : dR l = exR (Ai l) := by unfold dR; rw [hT]
  rw [hF, hX, hR]
  unfold exV exR
  cases hb : Dq (Ai l)
  ·rw [if_neg (by simp), if_neg (by simp)]
   exact Ig s w _ _ _ _ 0 (ne _ hW) (Lh C1) (Lh C2) (Lh (fun W => (C3 W).mono fun e w' x => Sg x hb))
  ·rw [if_pos rfl, if_pos rfl]
   exact Ix s w _ _ _ _ _ (ne _ hW) (Lh C1) (Lh C2) (Lh (fun W => (C3 W).mono fun e w' x => Ni x hb))
 ·rw [hd] at C2
  have hh : (Ai l).head? = some (46 : UInt8).toNat := beq_iff_eq.1 hd
  rw [if_pos hh] at C2
  have hF : dF l = Af (Ai l).tail := by unfold dF; rw [hd, if_pos rfl]
  have hT : dT l = Ai (Ai l).tail := by unfold dT; rw [hd, if_pos rfl]
  have hA2 : ∀ c ∈ (Ai l).tail, c < 256 := fun c hc => hA c (Ki c hc)
  have hl2 : (Ai l).tail.length ≤ 4611686018427387903 := by rw [List.length_tail]; omega
  have C4 := fun W => Sy (Ai l).tail W hA2 hl2
  have hl3 := Cf (Ai l).tail
  have C3 := key (Ai (Ai l).tail) (fun c hc => hA2 c (Rj c hc)) (by omega)
  unfold Ajj
  have hX : dX l = exV (Ai (Ai l).tail) := by unfold dX; rw [hT]
  have hR : dR l = exR (Ai (Ai l).tail) := by unfold dR; rw [hT]
  rw [hF, hX, hR]
  unfold exV exR
  by_cases hW : Af l = []
  ·have hF2 : Af (Ai l).tail ≠ [] := by
    intro e
    unfold dB dW at h
    rw [hF, e, hW] at h
    simp at h
   have C1 : ∀ W, Ct 254 #[.string s, .int .i64 10] (.tuple #[.string ⟨#[]⟩, .string (Ad (Ai l))]) W := by
    have C1' : ∀ W, Ct 254 #[.string s, .int .i64 10] (.tuple #[.string (Ad (Af l)), .string (Ad (Ai l))]) W := C1
    rw [hW] at C1'
    exact C1'
   unfold dW
   rw [hW]
   cases hb : Dq (Ai (Ai l).tail)
   ·rw [if_neg (by simp), if_neg (by simp)]
    exact Hh s w _ _ _ _ ⟨#[]⟩ 0 (ne _ hF2) (Lh C1) (Lh C2) (Lh C4) (Lh (fun W => (C3 W).mono fun e w' x => Sg x hb))
   ·rw [if_pos rfl, if_pos rfl]
    exact Ii s w _ _ _ _ _ _ (ne _ hF2) (Lh C1) (Lh C2) (Lh C4) (Lh (fun W => (C3 W).mono fun e w' x => Ni x hb))
  ·cases hb : Dq (Ai (Ai l).tail)
   ·rw [if_neg (by simp), if_neg (by simp)]
    exact Hf s w _ _ _ _ _ ⟨#[]⟩ 0 (ne _ hW) (Lh C1) (Lh C2) (Lh C4) (Lh (fun W => (C3 W).mono fun e w' x => Sg x hb))
   ·rw [if_pos rfl, if_pos rfl]
    exact Ik s w _ _ _ _ _ _ _ (ne _ hW) (Lh C1) (Lh C2) (Lh C4) (Lh (fun W => (C3 W).mono fun e w' x => Ni x hb))
theorem Oi (s : ByteArray) (w : World) (hs : s.size ≤ 4611686018427387903) (h : dB (bl s) = false) :
  Cp 199 #[.string s] w (fun e w' => e = .returned (.tuple #[.agg #[.string ⟨#[]⟩, .string ⟨#[]⟩, .int .i64 0], .string ⟨#[]⟩, .bool false]) ∧ Below w.heap.size w w') := by
 obtain ⟨l, hl⟩ : ∃ l, bl s = l := ⟨_, rfl⟩
 have hlt := J7 s
 have hlen := Bj s
 rw [hl] at h hlt hlen
 have hA : ∀ c ∈ Ai l, c < 256 := fun c hc => hlt c (Rj c hc)
 have hAl := Cf l
 have C1 : ∀ W, Ct 254 #[.string s, .int .i64 10] (.tuple #[.string (Ad (Af l)), .string (Ad (Ai l))]) W := by
  intro W
  have := Eb s 10 W (by omega) hs
  rw [hl, Xj] at this
  exact this
 have C2 := fun W => Ra (Ad (Ai l)) 46 W
 rw [Al hA] at C2
 have e2 : ((Ai l).head? == some (46 : UInt8).toNat) = Fz (Ai l) := rfl
 rw [e2] at C2
 unfold dB dW at h
 have hW : Af l = [] := by
  cases hr : Af l with
  | nil => rfl
  | cons => rw [hr] at h; simp at h
 have hF : dF l = [] := by
  cases hr : dF l with
  | nil => rfl
  | cons => rw [hr, hW] at h; simp at h
 rw [hW] at C1
 cases hd : Fz (Ai l)
 ·rw [hd] at C2
  have hne : ¬ (Ai l).head? = some (46 : UInt8).toNat := by
   intro e
   unfold Fz at hd
   rw [e] at hd
   simp at hd
  rw [if_neg hne] at C2
  exact Kj s w _ (Lh C1) (Lh C2)
 ·rw [hd] at C2
  have hh : (Ai l).head? = some (46 : UInt8).toNat := beq_iff_eq.1 hd
  rw [if_pos hh] at C2
  have hA2 : ∀ c ∈ (Ai l).tail, c < 256 := fun c hc => hA c (Ki c hc)
  have hl2 : (Ai l).tail.length ≤ 4611686018427387903 := by rw [List.length_tail]; omega
  have C4 := fun W => Sy (Ai l).tail W hA2 hl2
  have hF2 : Af (Ai l).tail = [] := by
   unfold dF at hF
   rw [hd, if_pos rfl] at hF
   exact hF
  rw [hF2] at C4
  exact L5 s w _ _ _ (Lh C1) (Lh C2) (Lh C4)


end
section
theorem Lp {w : World} {A : Option Addr} {n c m : Nat} (t : Int) (hA : NV w A n c m) (hm : bln m ≤ 6000) (ht1 : -2000 ≤ t) (ht : t ≤ 2000) :
  Cp 303 #[.slice A n c, .int .i64 t] w (NRet (m * 5 ^ t.toNat) w) := by
 have hp := Oh t.toNat
 obtain ⟨k, hk⟩ : ∃ k, t.toNat = k := ⟨_, rfl⟩
 rw [hk] at hp ⊢
 have C1 := Lh (fun W => Akq 5 k W (by omega) (by omega) (by omega))
 have C2 := Lh (fun W C k2 d (h : NV W C k2 d (5 ^ k)) (g : NV W A n c m) => Akp g h (by omega) (by omega))
 have H := Lh hA
 have e0 : max t 0 = (k : Int) := by omega
 clear hA hp hk hm ht1 ht
 go_enter Tryz.func303, Tryz.ntmps303
 go_wp2_with fail
 refine (C1.out _).mono ?_
 rintro e w1 ⟨A1, n1, c1, rfl, g1, b1⟩
 have G1 := Lh g1
 have G0 := Lh (H.out.step b1)
 have B1 := Lh b1
 clear g1 b1
 go_wp2_with fail
 refine (C2.out _ _ _ _ G1.out G0.out).mono ?_
 rintro e w2 ⟨A2, n2, c2, rfl, g2, b2⟩
 have G2 := Lh g2
 have B2 := Lh b2
 clear g2 b2
 go_wp2
 go_ret
 exact ⟨A2, n2, c2, rfl, G2.out, Aa B1.out B2.out⟩
def Aj9 (a b : Nat) (w : World) (e : Ending) (w' : World) : Prop := ∃ A n c, e = .returned (.tuple #[.slice A n c, .bool (decide (a % b = 0))]) ∧ NV w' A n c (a / b) ∧ Below w.heap.size w w'
theorem Ade {v n : Nat} (h : (wds v).length = n) : ((n : Int) == 0) = decide (v = 0) := by
 by_cases h0 : v = 0
 ·rw [h0] at h
  have : n = 0 := by rw [← h]; rfl
  rw [this, h0]; rfl
 ·have h1 : (wds v) ≠ [] := by
   intro e
   have := Ag v
   rw [e] at this
   exact h0 this.symm
  have h2 := List.length_pos_iff.2 h1
  rw [decide_eq_false h0, beq_eq_false_iff_ne]
  omega
theorem Wq {w : World} {A C : Option Addr} {n c m d a b : Nat} (t : Int) (hA : NV w A n c a) (hC : NV w C m d b) (ha : bln a ≤ 6000) (hb : bln b ≤ 6000) (h0 : 0 < b) (ht1 : -8000 ≤ t) (ht : t ≤ 8000) :
  Cp 306 #[.slice A n c, .slice C m d, .int .i64 t] w (Aj9 (a * 2 ^ t.toNat) (b * 2 ^ (-t).toNat) w) := by
 have hp1 := Ka t.toNat
 have hp2 := Ka (-t).toNat
 have hm1 := F3 a (2 ^ t.toNat)
 have hm2 := F3 b (2 ^ (-t).toNat)
 have h00 : 0 < b * 2 ^ (-t).toNat := Nat.mul_pos h0 (Da _)
 obtain ⟨x, hx⟩ : ∃ x, t.toNat = x := ⟨_, rfl⟩
 obtain ⟨y, hy⟩ : ∃ y, (-t).toNat = y := ⟨_, rfl⟩
 rw [hx] at hp1 hm1 ⊢
 rw [hy] at hp2 hm2 h00 ⊢
 have C1 := Lh (fun W (h : NV W A n c a) => Aj8 h x (by omega))
 have C2 := Lh (fun W (h : NV W C m d b) => Aj8 h y (by omega))
 obtain ⟨P, hP⟩ : ∃ P, a * 2 ^ x = P := ⟨_, rfl⟩
 obtain ⟨Q, hQ⟩ : ∃ Q, b * 2 ^ y = Q := ⟨_, rfl⟩
 rw [hP] at C1 hm1 ⊢
 rw [hQ] at C2 hm2 h00 ⊢
 have C3 := Lh (fun W A1 n1 c1 A2 n2 c2 (h : NV W A1 n1 c1 P) (g : NV W A2 n2 c2 Q) => Akn h g (by omega) (by omega) h00)
 have HA := Lh hA
 have HC := Lh hC
 have e0 : max t 0 = (x : Int) := by omega
 have e1 : max (-t) 0 = (y : Int) := by omega
 have e2 : IntKind.i64.wrap (-t) = -t := IntWalk.i64_in _ (by omega)
 clear hA hC ha hb h0 ht1 ht hp1 hp2 hm1 hm2 hx hy hP hQ
 go_enter Tryz.func306, Tryz.ntmps306
 go_wp2_with fail
 refine (C1.out _ HA.out).mono ?_
 rintro e w1 ⟨A1, n1, c1, rfl, g1, b1⟩
 have G1 := Lh g1
 have GC := Lh (HC.out.step b1)
 have B1 := Lh b1
 clear g1 b1
 go_wp2_with fail
 refine (C2.out _ GC.out).mono ?_
 rintro e w2 ⟨A2, n2, c2, rfl, g2, b2⟩
 have G2 := Lh g2
 have G1' := Lh (G1.out.step b2)
 have B2 := Lh (Aa B1.out b2)
 clear g2 b2
 go_wp2_with fail
 refine (C3.out _ _ _ _ _ _ _ G1'.out G2.out).mono ?_
 rintro e w3 ⟨A3, n3, c3, A4, n4, c4, rfl, g3, g4, b3⟩
 have G3 := Lh g3
 have B3 := Lh (Aa B2.out b3)
 have HZ := Lh (Ade g4.len)
 clear g3 g4 b3
 go_wp2
 go_ret2
 exact ⟨A3, n3, c3, by rw [← HZ.out]; rfl, G3.out, B3.out⟩


end
section
theorem Acq {w : World} {A : Option Addr} {n c v : Nat} (hA : NV w A n c v) (hv : v < 18446744073709551616) :
  Cq 307 #[.slice A n c] (.int .u64 v) w := by
 have hn : n ≤ 2 := by
  rw [← hA.len]
  exact Bd (by rw [show (4294967296 : Nat) ^ 2 = 18446744073709551616 from by decide]; exact hv)
 have hL := hA.len
 have hws := Az v
 by_cases hn0 : n = 0
 ·subst hn0
  have hv0 : v = 0 := by
   have h1 := Ag v
   rw [List.eq_nil_of_length_eq_zero hL] at h1
   exact h1.symm
  subst hv0
  clear hL hws hv hA hn
  go_enter Tryz.func307, Tryz.ntmps307
  go_wp2
  go_loopw [3, 8] (fun a i wr => a = .int .u64 0 ∧ i = .int .i64 0 ∧ w = wr) (fun _ _ _ => 0)
  case atStart => exact ⟨rfl, rfl, rfl⟩
  case round =>
   obtain ⟨rfl, rfl, rfl⟩ := hrel
   go_wp2
   go_ret
   exact ⟨rfl, rfl⟩
 ·obtain ⟨b, off, rfl, _, hc⟩ := hA.row.2 (by omega)
  obtain ⟨x, hx⟩ : ∃ x, (wds v).getD 0 0 = x := ⟨_, rfl⟩
  obtain ⟨y, hy⟩ : ∃ y, (wds v).getD 1 0 = y := ⟨_, rfl⟩
  have hxl : x < 4294967296 := by rw [← hx]; exact hws.getD 0
  have hyl : y < 4294967296 := by rw [← hy]; exact hws.getD 1
  have hV1 : n = 1 → v = x := by
   intro h1
   have h2 := Ag v
   rw [← Bk (k := 1) (by omega), Aq, hx] at h2
   simp [val] at h2
   exact h2.symm
  have hV2 : n = 2 → v = x + 4294967296 * y := by
   intro h1
   have h2 := Ag v
   rw [← Bk (k := 2) (by omega), Aq, Aq, hx, hy] at h2
   simp [val] at h2
   exact h2.symm
  have c0 : w.cell? ⟨b, off, none⟩ = some (.int .u32 (x : Int)) := by
   rw [← hx]
   exact hc 0 _ (getD_some (by omega))
  have hx0 : bits BinOp.or IntKind.u64 0 (x : Int) = (x : Int) := by
   have := Gp 0 x (by omega) (by omega)
   rw [Nat.zero_or] at this
   exact this
  have k1 : IntKind.u64.wrap (x : Int) = (x : Int) := IntWalk.u64_in _ (by omega)
  rcases (show n = 1 ∨ n = 2 by omega) with rfl | rfl
  ·have hv1 := hV1 rfl
   subst hv1
   clear hV1 hV2 hx hy hyl hws hL hA hn hn0 hc
   go_enter Tryz.func307, Tryz.ntmps307
   go_wp2
   go_loopw [3, 8] (fun a i wr => ((a = .int .u64 0 ∧ i = .int .i64 0) ∨ (a = .int .u64 (v : Int) ∧ i = .int .i64 1)) ∧ w = wr) (fun _ i _ => 1 - (intOf i).toNat)
   case atStart => exact ⟨Or.inl ⟨rfl, rfl⟩, rfl⟩
   case round =>
    obtain ⟨⟨rfl, rfl⟩ | ⟨rfl, rfl⟩, rfl⟩ := hrel
    ·go_wp2
     exact ⟨⟨Or.inr ⟨rfl, rfl⟩, trivial⟩, by simp [intOf]⟩
    ·go_wp2
     go_ret
     exact ⟨rfl, rfl⟩
  ·have hv2 := hV2 rfl
   have c1 : w.cell? ⟨b, off + 1, none⟩ = some (.int .u32 (y : Int)) := by
    rw [← hy]
    exact hc 1 _ (getD_some (by omega))
   have k2 : IntKind.u64.wrap (y : Int) = (y : Int) := IntWalk.u64_in _ (by omega)
   have k3 : IntKind.u64.wrap ((y : Int) * 4294967296) = (y : Int) * 4294967296 := IntWalk.u64_in _ (by omega)
   have hy0 : bits BinOp.or IntKind.u64 (x : Int) ((y : Int) * 4294967296) = (v : Int) := by
    have h1 := Gp x (y * 4294967296) (by omega) (by omega)
    have h2 : ((y * 4294967296 : Nat) : Int) = (y : Int) * 4294967296 := by omega
    rw [h2] at h1
    rw [h1, Nat.or_comm, Vr y x hxl, hv2, Nat.mul_comm y, Nat.add_comm]
   clear hV1 hV2 hx hy hws hL hA hn hn0 hc hv2 hxl hyl hv
   go_enter Tryz.func307, Tryz.ntmps307
   go_wp2
   go_loopw [3, 8] (fun a i wr => ((a = .int .u64 0 ∧ i = .int .i64 0) ∨ (a = .int .u64 (x : Int) ∧ i = .int .i64 1) ∨ (a = .int .u64 (v : Int) ∧ i = .int .i64 2)) ∧ w = wr) (fun _ i _ => 2 - (intOf i).toNat)
   case atStart => exact ⟨Or.inl ⟨rfl, rfl⟩, rfl⟩
   case round =>
    obtain ⟨⟨rfl, rfl⟩ | ⟨rfl, rfl⟩ | ⟨rfl, rfl⟩, rfl⟩ := hrel
    ·go_wp2
     exact ⟨⟨Or.inr (Or.inl ⟨rfl, rfl⟩), trivial⟩, by simp [intOf]⟩
    ·go_wp2
     exact ⟨⟨Or.inr (Or.inr ⟨rfl, rfl⟩), trivial⟩, by simp [intOf]⟩
    ·go_wp2
     go_ret
     exact ⟨rfl, rfl⟩


end
section
theorem Aa2 {r s : Nat} (h : Ay r ≤ Ay s) : r ≤ s := by
 rcases Nat.lt_or_ge s r with h1 | h1
 ·have := Es h1
  omega
 ·exact h1
theorem Aej {E D : Nat} {e' : Int} (hE : E ≤ 9007199254740992) (hD : D = 0 ∨ 4503599627370496 ≤ E) (hD2 : D ≤ 8000) (he : e' = (D : Int) - 1074) (w : World) : Cq 312 #[.float .f64 (fl E), .int .i64 e'] (.float .f64 (min (D * 4503599627370496 + E) 9218868437227405312)) w := by
 rcases Nat.lt_or_ge 2045 D with h | h
 ·obtain ⟨K, hK⟩ : ∃ K : Nat, K = 1074 := ⟨_, rfl⟩
  obtain ⟨y1, y2⟩ := Y4 hE hK
  have hE2 : 4503599627370496 ≤ E := hD.resolve_left (by omega)
  have e1 := Ba 4503599627370496 K (by omega) (by omega)
  have h3 : K * 4503599627370496 + 4503599627370496 ≤ fl E := by
   refine Aa2 ?_
   rw [e1, y2]
   exact Nat.mul_le_mul_right _ hE2
  have h4 := Ky (fl E) (D - 1074) w (by omega) y1 (by omega)
  have h5 : scl (fl E) (D - 1074) = 9218868437227405312 := by
   unfold scl
   rw [if_neg]
   have : K + 1 ≤ fl E / 4503599627370496 := by
    rw [Nat.le_div_iff_mul_le (by omega)]
    omega
   omega
  rw [h5] at h4
  rw [show e' = ((D - 1074 : Nat) : Int) by omega, Nat.min_eq_right (by omega)]
  exact h4
 ·exact Y8 hE hD h he w
theorem Yg (n d L q H P r s E F : Nat) (two X : Int) (w : World) (hnb : n < 18446744073709551616) (hL : Lib.bitLen n = L) (hd0 : 1 ≤ d) (hd3 : d ≤ 10) (k1 : IntKind.i64.wrap (-1074 - two) = -1074 - two) (k2 : IntKind.i64.wrap ((L : Int) - 53) = (L : Int) - 53) (hd : max ((L : Int) - 53) (-1074 - two) = (d : Int))
  (q1 : (n : Int) / 2 ^ d = (q : Int)) (q2 : IntKind.u64.wrap (2 ^ d) = (P : Int)) (q3 : IntKind.u64.wrap ((P : Int) - 1) = (P : Int) - 1) (q4 : IntKind.u64.wrap (2 ^ (d - 1)) = (H : Int)) (q5 : bits BinOp.and IntKind.u64 (n : Int) ((P : Int) - 1) = (r : Int)) (q6 : bits BinOp.and IntKind.u64 (q : Int) 1 = (s : Int)) (q7 : IntKind.u64.wrap ((q : Int) + 1) = (q : Int) + 1) (q8 : wrap64 (two + (d : Int)) = X)
  (t1 : decide (H < r) = true) (hE : (q : Int) + 1 = (E : Int))
  (C2 : Hid (∀ W, Cq 312 #[.float .f64 (floatOfInt .f64 (E : Int)), .int .i64 X] (.float .f64 F) W)) :
  Ct 308 #[.int .u64 n, .int .i64 two] (.float .f64 F) w := by
 have C1 := Lh (fun W => (Tryz.bits_Len64 (n : Int) W (by omega) (by omega)).mono fun e w' h => And.intro h.1 h.2.symm)
 rw [Int.toNat_natCast, hL] at C1
 have k3 : (0 : Int) ≤ (d : Int) := by omega
 have k4 : (0 : Int) ≤ (d : Int) - 1 := by omega
 rw [← hE] at C2
 have Q1 := Lh q1
 have Q2 := Lh q2
 have Q3 := Lh q3
 have Q4 := Lh q4
 have Q5 := Lh q5
 have Q6 := Lh q6
 have Q7 := Lh q7
 have Q8 := Lh q8
 have T1 := Lh t1
 clear t1 hL hnb hE q1 q2 q3 q4 q5 q6 q7 q8
 go_enter Tryz.func308, Tryz.ntmps308
 go_wp2_with fail
 refine Sm (C1.out _) ?_
 go_wp2
 go_quiet (fail)
 have q1 := Q1.out
 have q2 := Q2.out
 have q3 := Q3.out
 have q4 := Q4.out
 have q5 := Q5.out
 have q6 := Q6.out
 have q7 := Q7.out
 have q8 := Q8.out
 have t1 := T1.out
 go_wp2_with fail
 refine Sm (C2.out _) ?_
 go_wp2
 go_ret
 exact ⟨rfl, Ac (Below.refl _ _) _⟩
theorem Wd (n d L q H P s E F : Nat) (two X : Int) (w : World) (hnb : n < 18446744073709551616) (hL : Lib.bitLen n = L) (hd0 : 1 ≤ d) (hd3 : d ≤ 10) (k1 : IntKind.i64.wrap (-1074 - two) = -1074 - two) (k2 : IntKind.i64.wrap ((L : Int) - 53) = (L : Int) - 53) (hd : max ((L : Int) - 53) (-1074 - two) = (d : Int))
  (q1 : (n : Int) / 2 ^ d = (q : Int)) (q2 : IntKind.u64.wrap (2 ^ d) = (P : Int)) (q3 : IntKind.u64.wrap ((P : Int) - 1) = (P : Int) - 1) (q4 : IntKind.u64.wrap (2 ^ (d - 1)) = (H : Int)) (q5 : bits BinOp.and IntKind.u64 (n : Int) ((P : Int) - 1) = (H : Int)) (q6 : bits BinOp.and IntKind.u64 (q : Int) 1 = (s : Int)) (q7 : IntKind.u64.wrap ((q : Int) + 1) = (q : Int) + 1) (q8 : wrap64 (two + (d : Int)) = X)
  (t3 : ((s : Int) == 1) = true) (hE : (q : Int) + 1 = (E : Int))
  (C2 : Hid (∀ W, Cq 312 #[.float .f64 (floatOfInt .f64 (E : Int)), .int .i64 X] (.float .f64 F) W)) :
  Ct 308 #[.int .u64 n, .int .i64 two] (.float .f64 F) w := by
 have C1 := Lh (fun W => (Tryz.bits_Len64 (n : Int) W (by omega) (by omega)).mono fun e w' h => And.intro h.1 h.2.symm)
 rw [Int.toNat_natCast, hL] at C1
 have k3 : (0 : Int) ≤ (d : Int) := by omega
 have k4 : (0 : Int) ≤ (d : Int) - 1 := by omega
 rw [← hE] at C2
 have Q1 := Lh q1
 have Q2 := Lh q2
 have Q3 := Lh q3
 have Q4 := Lh q4
 have Q5 := Lh q5
 have Q6 := Lh q6
 have Q7 := Lh q7
 have Q8 := Lh q8
 have T3 := Lh t3
 clear t3 hL hnb hE q1 q2 q3 q4 q5 q6 q7 q8
 go_enter Tryz.func308, Tryz.ntmps308
 go_wp2_with fail
 refine Sm (C1.out _) ?_
 go_wp2
 go_quiet (fail)
 have q1 := Q1.out
 have q2 := Q2.out
 have q3 := Q3.out
 have q4 := Q4.out
 have q5 := Q5.out
 have q6 := Q6.out
 have q7 := Q7.out
 have q8 := Q8.out
 have t3 := T3.out
 go_wp2_with fail
 refine Sm (C2.out _) ?_
 go_wp2
 go_ret
 exact ⟨rfl, Ac (Below.refl _ _) _⟩
theorem Xf (n d L q H P s E F : Nat) (two X : Int) (w : World) (hnb : n < 18446744073709551616) (hL : Lib.bitLen n = L) (hd0 : 1 ≤ d) (hd3 : d ≤ 10) (k1 : IntKind.i64.wrap (-1074 - two) = -1074 - two) (k2 : IntKind.i64.wrap ((L : Int) - 53) = (L : Int) - 53) (hd : max ((L : Int) - 53) (-1074 - two) = (d : Int))
  (q1 : (n : Int) / 2 ^ d = (q : Int)) (q2 : IntKind.u64.wrap (2 ^ d) = (P : Int)) (q3 : IntKind.u64.wrap ((P : Int) - 1) = (P : Int) - 1) (q4 : IntKind.u64.wrap (2 ^ (d - 1)) = (H : Int)) (q5 : bits BinOp.and IntKind.u64 (n : Int) ((P : Int) - 1) = (H : Int)) (q6 : bits BinOp.and IntKind.u64 (q : Int) 1 = (s : Int)) (q7 : IntKind.u64.wrap ((q : Int) + 1) = (q : Int) + 1) (q8 : wrap64 (two + (d : Int)) = X)
  (t3 : ((s : Int) == 1) = false) (hE : (q : Int) = (E : Int))
  (C2 : Hid (∀ W, Cq 312 #[.float .f64 (floatOfInt .f64 (E : Int)), .int .i64 X] (.float .f64 F) W)) :
  Ct 308 #[.int .u64 n, .int .i64 two] (.float .f64 F) w := by
 have C1 := Lh (fun W => (Tryz.bits_Len64 (n : Int) W (by omega) (by omega)).mono fun e w' h => And.intro h.1 h.2.symm)
 rw [Int.toNat_natCast, hL] at C1
 have k3 : (0 : Int) ≤ (d : Int) := by omega
 have k4 : (0 : Int) ≤ (d : Int) - 1 := by omega
 rw [← hE] at C2
 have Q1 := Lh q1
 have Q2 := Lh q2
 have Q3 := Lh q3
 have Q4 := Lh q4
 have Q5 := Lh q5
 have Q6 := Lh q6
 have Q7 := Lh q7
 have Q8 := Lh q8
 have T3 := Lh t3
 clear t3 hL hnb hE q1 q2 q3 q4 q5 q6 q7 q8
 go_enter Tryz.func308, Tryz.ntmps308
 go_wp2_with fail
 refine Sm (C1.out _) ?_
 go_wp2
 go_quiet (fail)
 have q1 := Q1.out
 have q2 := Q2.out
 have q3 := Q3.out
 have q4 := Q4.out
 have q5 := Q5.out
 have q6 := Q6.out
 have q7 := Q7.out
 have q8 := Q8.out
 have t3 := T3.out
 go_wp2_with fail
 refine Sm (C2.out _) ?_
 go_wp2
 go_ret
 exact ⟨rfl, Ac (Below.refl _ _) _⟩
theorem Xt (n d L q H P r s E F : Nat) (two X : Int) (w : World) (hnb : n < 18446744073709551616) (hL : Lib.bitLen n = L) (hd0 : 1 ≤ d) (hd3 : d ≤ 10) (k1 : IntKind.i64.wrap (-1074 - two) = -1074 - two) (k2 : IntKind.i64.wrap ((L : Int) - 53) = (L : Int) - 53) (hd : max ((L : Int) - 53) (-1074 - two) = (d : Int))
  (q1 : (n : Int) / 2 ^ d = (q : Int)) (q2 : IntKind.u64.wrap (2 ^ d) = (P : Int)) (q3 : IntKind.u64.wrap ((P : Int) - 1) = (P : Int) - 1) (q4 : IntKind.u64.wrap (2 ^ (d - 1)) = (H : Int)) (q5 : bits BinOp.and IntKind.u64 (n : Int) ((P : Int) - 1) = (r : Int)) (q6 : bits BinOp.and IntKind.u64 (q : Int) 1 = (s : Int)) (q7 : IntKind.u64.wrap ((q : Int) + 1) = (q : Int) + 1) (q8 : wrap64 (two + (d : Int)) = X)
  (t1 : decide (H < r) = false) (t2 : ((r : Int) == (H : Int)) = false) (hE : (q : Int) = (E : Int))
  (C2 : Hid (∀ W, Cq 312 #[.float .f64 (floatOfInt .f64 (E : Int)), .int .i64 X] (.float .f64 F) W)) :
  Ct 308 #[.int .u64 n, .int .i64 two] (.float .f64 F) w := by
 have C1 := Lh (fun W => (Tryz.bits_Len64 (n : Int) W (by omega) (by omega)).mono fun e w' h => And.intro h.1 h.2.symm)
 rw [Int.toNat_natCast, hL] at C1
 have k3 : (0 : Int) ≤ (d : Int) := by omega
 have k4 : (0 : Int) ≤ (d : Int) - 1 := by omega
 rw [← hE] at C2
 have Q1 := Lh q1
 have Q2 := Lh q2
 have Q3 := Lh q3
 have Q4 := Lh q4
 have Q5 := Lh q5
 have Q6 := Lh q6
 have Q7 := Lh q7
 have Q8 := Lh q8
 have T1 := Lh t1
 have T2 := Lh t2
 clear t1 t2 hL hnb hE q1 q2 q3 q4 q5 q6 q7 q8
 go_enter Tryz.func308, Tryz.ntmps308
 go_wp2_with fail
 refine Sm (C1.out _) ?_
 go_wp2
 go_quiet (fail)
 have q1 := Q1.out
 have q2 := Q2.out
 have q3 := Q3.out
 have q4 := Q4.out
 have q5 := Q5.out
 have q6 := Q6.out
 have q7 := Q7.out
 have q8 := Q8.out
 have t1 := T1.out
 have t2 := T2.out
 go_wp2_with fail
 refine Sm (C2.out _) ?_
 go_wp2
 go_ret
 exact ⟨rfl, Ac (Below.refl _ _) _⟩


end
section
theorem Yl {n : Nat} (hn : n < 9223372036854775808) : n < 2 ^ Lib.bitLen n ∧ (Lib.bitLen n = 0 ∨ 2 ^ (Lib.bitLen n - 1) ≤ n) ∧ Lib.bitLen n ≤ 63 := by
 have h63 := Lib.bitLen_le n 63 (by omega) (by rw [show (2 : Nat) ^ 63 = 9223372036854775808 by decide]; exact hn)
 rcases Nat.eq_zero_or_pos n with h0 | h0
 ·rw [h0, show Lib.bitLen 0 = 0 by decide]
  exact ⟨by decide, Or.inl rfl, by omega⟩
 ·have h := Lib.bitLenAux_bounds 64 n (by omega) (by omega)
  exact ⟨h.2.2, Or.inr h.2.1, h63⟩
theorem R7 (n : Nat) (two : Int) (w : World) (hn : n < 9223372036854775808) (h1 : -1076 ≤ two) (h2 : two ≤ 6000) (hb : two = -1076 ∨ 2 ^ 60 ≤ n) :
  Ct 308 #[.int .u64 n, .int .i64 two] (.float .f64 (rnd (n * 2 ^ (two + 1074).toNat) (2 ^ (-(two + 1074)).toNat))) w := by
 obtain ⟨b1, b2, b3⟩ := Yl hn
 obtain ⟨L, hL⟩ : ∃ L, Lib.bitLen n = L := ⟨_, rfl⟩
 rw [hL] at b1 b2 b3
 have hL60 : two = -1076 ∨ 61 ≤ L := by
  rcases hb with h | h
  ·exact Or.inl h
  ·refine Or.inr ?_
   have := (Nat.pow_lt_pow_iff_right (a := 2) (by omega)).1 (Nat.lt_of_le_of_lt h b1)
   omega
 obtain ⟨d, hd⟩ : ∃ d : Nat, max ((L : Int) - 53) (-1074 - two) = (d : Int) := ⟨(max ((L : Int) - 53) (-1074 - two)).toNat, by omega⟩
 have hd2 : 2 ≤ d := by omega
 have hd3 : d ≤ 10 := by omega
 obtain ⟨D, hD⟩ : ∃ D : Nat, two + d + 1074 = (D : Int) := ⟨(two + d + 1074).toNat, by omega⟩
 obtain ⟨A, hA⟩ : ∃ A, (two + 1074).toNat = A := ⟨_, rfl⟩
 obtain ⟨B, hB⟩ : ∃ B, (-(two + 1074)).toNat = B := ⟨_, rfl⟩
 rw [hA, hB]
 obtain ⟨r1, r2, r3⟩ := Aeo (n := n) (L := L) (drop := d) (A := A) (B := B) (D := D) b1 b2 (by omega) (by omega) (by omega)
 rw [r1]
 obtain ⟨E, hE⟩ : ∃ E, Cu n (2 ^ d) = E := ⟨_, rfl⟩
 rw [hE] at r2 r3 ⊢
 have C2 : Hid (∀ W, Cq 312 #[.float .f64 (floatOfInt .f64 (E : Int)), .int .i64 (two + d)] (.float .f64 (min (D * 4503599627370496 + E) 9218868437227405312)) W) :=
  Lh (fun W => Aej (D := D) r2 r3 (by omega) (by omega) W)
 obtain ⟨c, rfl⟩ : ∃ c, d = c + 1 := ⟨d - 1, by omega⟩
 have hP : 2 ^ (c + 1) = 2 * 2 ^ c := by rw [Nat.pow_succ, Nat.mul_comm]
 obtain ⟨H, hH⟩ : ∃ H, 2 ^ c = H := ⟨_, rfl⟩
 rw [hH] at hP
 have hH0 : 0 < H := by rw [← hH]; exact Da c
 have hH9 : H ≤ 512 := by
  rw [← hH]
  have := Nat.pow_le_pow_right (n := 2) (by omega) (show c ≤ 9 by omega)
  omega
 obtain ⟨P, hPP⟩ : ∃ P, 2 ^ (c + 1) = P := ⟨_, rfl⟩
 rw [hPP] at hP
 have cast : ∀ k : Nat, ((2 : Int) ^ k) = ((2 ^ k : Nat) : Int) := fun k => by simp
 obtain ⟨q, hq⟩ : ∃ q, n / P = q := ⟨_, rfl⟩
 obtain ⟨r, hr⟩ : ∃ r, n % P = r := ⟨_, rfl⟩
 have hql : q ≤ n := by rw [← hq]; exact Nat.div_le_self _ _
 have hrl : r < P := by rw [← hr]; exact Nat.mod_lt _ (by omega)
 have q1 : (n : Int) / 2 ^ (c + 1) = (q : Int) := by rw [cast, hPP, ← hq]; exact (Int.natCast_ediv n P).symm
 have q2 : IntKind.u64.wrap (2 ^ (c + 1)) = (P : Int) := by rw [cast, hPP]; exact IntWalk.u64_in _ (by omega)
 have q3 : IntKind.u64.wrap ((P : Int) - 1) = (P : Int) - 1 := IntWalk.u64_in _ (by omega)
 have q4 : IntKind.u64.wrap (2 ^ (c + 1 - 1)) = (H : Int) := by rw [Nat.add_sub_cancel, cast, hH]; exact IntWalk.u64_in _ (by omega)
 have q5 : bits BinOp.and IntKind.u64 (n : Int) ((P : Int) - 1) = (r : Int) := by
  rw [show ((P : Int) - 1) = ((P - 1 : Nat) : Int) by omega, u64_and_nat _ _ (by omega) (by omega), ← hPP, Nat.and_two_pow_sub_one_eq_mod, hPP, hr]
 have q6 : bits BinOp.and IntKind.u64 (q : Int) 1 = ((q % 2 : Nat) : Int) := by
  have := u64_and_nat q 1 (by omega) (by omega)
  rw [show ((1 : Nat) : Int) = 1 from rfl] at this
  rw [this, show (1 : Nat) = 2 ^ 1 - 1 from rfl, Nat.and_two_pow_sub_one_eq_mod]
 have q7 : IntKind.u64.wrap ((q : Int) + 1) = (q : Int) + 1 := IntWalk.u64_in _ (by omega)
 have q8 : wrap64 (two + ((c + 1 : Nat) : Int)) = two + ((c + 1 : Nat) : Int) := by
  unfold wrap64; omega
 have k1 : IntKind.i64.wrap (-1074 - two) = -1074 - two := IntWalk.i64_in _ (by omega)
 have k2 : IntKind.i64.wrap ((L : Int) - 53) = (L : Int) - 53 := IntWalk.i64_in _ (by omega)
 have hEE : E = if H < r ∨ (r = H ∧ q % 2 = 1) then q + 1 else q := by
  rw [← hE, hPP, hP, Xl, ← hP, hq, hr]
 rcases Nat.lt_trichotomy r H with h | h | h
 ·rw [if_neg (by omega)] at hEE
  exact Xt n (c + 1) L q H P r (q % 2) E _ two _ w (by omega) hL (by omega) hd3 k1 k2 hd q1 q2 q3 q4 q5 q6 q7 q8 (decide_eq_false (by omega)) (by rw [beq_eq_false_iff_ne]; omega) (by rw [hEE]) C2
 ·subst h
  by_cases ho : q % 2 = 1
  ·rw [if_pos (Or.inr ⟨rfl, ho⟩)] at hEE
   exact Wd n (c + 1) L q r P (q % 2) E _ two _ w (by omega) hL (by omega) hd3 k1 k2 hd q1 q2 q3 q4 q5 q6 q7 q8 (by rw [ho]; rfl) (by rw [hEE]; rfl) C2
  ·rw [if_neg (by omega)] at hEE
   exact Xf n (c + 1) L q r P (q % 2) E _ two _ w (by omega) hL (by omega) hd3 k1 k2 hd q1 q2 q3 q4 q5 q6 q7 q8 (by rw [beq_eq_false_iff_ne]; omega) (by rw [hEE]) C2
 ·rw [if_pos (Or.inl h)] at hEE
  exact Yg n (c + 1) L q H P r (q % 2) E _ two _ w (by omega) hL (by omega) hd3 k1 k2 hd q1 q2 q3 q4 q5 q6 q7 q8 (decide_eq_true h) (by rw [hEE]; rfl) C2
theorem Ko {a b x y p q : Nat} (ha1 : 2 ^ p ≤ a) (ha2 : a < 2 ^ (p + 1)) (hb1 : 2 ^ q ≤ b) (hb2 : b < 2 ^ (q + 1)) (k : Nat) :
  (p + 1 + x ≤ k + q + y → a * 2 ^ x / (b * 2 ^ y) < 2 ^ k) ∧ (k + q + 1 + y ≤ p + x → 2 ^ k ≤ a * 2 ^ x / (b * 2 ^ y)) := by
 have hX := Da x
 have hY := Da y
 have hb : 0 < b := Nat.lt_of_lt_of_le (Da q) hb1
 constructor
 ·intro h
  rw [Nat.div_lt_iff_lt_mul (Nat.mul_pos hb hY)]
  have h1 : a * 2 ^ x < 2 ^ (p + 1) * 2 ^ x := Nat.mul_lt_mul_of_pos_right ha2 hX
  have h2 : 2 ^ k * (2 ^ q * 2 ^ y) ≤ 2 ^ k * (b * 2 ^ y) := Nat.mul_le_mul_left _ (Nat.mul_le_mul_right _ hb1)
  have h3 : 2 ^ (p + 1) * 2 ^ x ≤ 2 ^ k * (2 ^ q * 2 ^ y) := by
   rw [← Nat.pow_add, ← Nat.pow_add, ← Nat.pow_add]
   exact Nat.pow_le_pow_right (by omega) (by omega)
  omega
 ·intro h
  rw [Nat.le_div_iff_mul_le (Nat.mul_pos hb hY)]
  have h1 : 2 ^ p * 2 ^ x ≤ a * 2 ^ x := Nat.mul_le_mul_right _ ha1
  have h2 : 2 ^ k * (b * 2 ^ y) ≤ 2 ^ k * (2 ^ (q + 1) * 2 ^ y) := Nat.mul_le_mul_left _ (Nat.mul_le_mul_right _ (Nat.le_of_lt hb2))
  have h3 : 2 ^ k * (2 ^ (q + 1) * 2 ^ y) ≤ 2 ^ p * 2 ^ x := by
   rw [← Nat.pow_add, ← Nat.pow_add, ← Nat.pow_add]
   exact Nat.pow_le_pow_right (by omega) (by omega)
  omega
def Akk (m : Nat) (ten : Int) (w : World) (e : Ending) (w' : World) : Prop := e = .returned (.float .f64 (Bq m ten)) ∧ Below w.heap.size w w'
theorem Ot {w : World} {A : Option Addr} {n c m T B bt bb q nn F : Nat} {ten x1 x2 x3 last two : Int} {ex : Bool} (hA : NV w A n c m)
  (C1 : Hid (∀ W, NV W A n c m → Cp 303 #[.slice A n c, .int .i64 ten] W (NRet T W)))
  (C3 : Hid (∀ W A1 n1 c1, NV W A1 n1 c1 1 → Cp 303 #[.slice A1 n1 c1, .int .i64 (-ten)] W (NRet B W)))
  (C4 : Hid (∀ W A1 n1 c1, NV W A1 n1 c1 T → Cq 305 #[.slice A1 n1 c1] (.int .i64 (bt : Nat)) W))
  (C5 : Hid (∀ W A1 n1 c1, NV W A1 n1 c1 B → Cq 305 #[.slice A1 n1 c1] (.int .i64 (bb : Nat)) W))
  (C6 : Hid (∀ W A1 n1 c1 A2 n2 c2, NV W A1 n1 c1 T → NV W A2 n2 c2 B → Cp 306 #[.slice A1 n1 c1, .slice A2 n2 c2, .int .i64 two] W fun e w' => ∃ A3 n3 c3, e = .returned (.tuple #[.slice A3 n3 c3, .bool ex]) ∧ NV w' A3 n3 c3 q ∧ Below W.heap.size W w'))
  (C7 : Hid (∀ W A1 n1 c1, NV W A1 n1 c1 q → Cq 307 #[.slice A1 n1 c1] (.int .u64 q) W))
  (C8 : Hid (∀ W, Ct 308 #[.int .u64 nn, .int .i64 last] (.float .f64 F) W))
  (k1 : IntKind.i64.wrap (-ten) = -ten) (k2 : IntKind.i64.wrap ((bt : Int) - (bb : Int)) = x1) (k3 : IntKind.i64.wrap (x1 + ten) = x2) (k4 : IntKind.i64.wrap (x2 - 62) = x3) (hmax : max x3 (-1076) = last) (k5 : IntKind.i64.wrap (ten - last) = two)
  (hor : (ex = true ∧ nn = q) ∨ (ex = false ∧ bits BinOp.or IntKind.u64 (q : Int) 1 = (nn : Int))) :
  Ct 263 #[.slice A n c, .int .i64 ten] (.float .f64 F) w := by
 have C2 := Lh (fun W => nof 1 (by omega) W)
 have HA := Lh hA
 clear hA
 rcases hor with ⟨rfl, rfl⟩ | ⟨rfl, hor⟩
 all_goals
  go_enter Tryz.func263, Tryz.ntmps263
  go_wp2_with fail
  refine (C1.out _ HA.out).mono ?_
  rintro e w1 ⟨A1, n1, c1, rfl, g1, b1⟩
  have G1 := Lh g1
  have B1 := Lh b1
  clear g1 b1
  go_wp2_with fail
  refine (C2.out _).mono ?_
  rintro e w2 ⟨A2, n2, c2, rfl, g2, b2⟩
  have G2 := Lh g2
  have G1' := Lh (G1.out.step b2)
  have B2 := Lh (Aa B1.out b2)
  clear g2 b2
  go_wp2_with fail
  refine (C3.out _ _ _ _ G2.out).mono ?_
  rintro e w3 ⟨A3, n3, c3, rfl, g3, b3⟩
  have G3 := Lh g3
  have G1'' := Lh (G1'.out.step b3)
  have B3 := Lh (Aa B2.out b3)
  clear g3 b3
  go_wp2_with fail
  refine Sm (C4.out _ _ _ _ G1''.out) ?_
  go_wp2_with fail
  refine Sm (C5.out _ _ _ _ G3.out) ?_
  go_wp2_with fail
  refine (C6.out _ _ _ _ _ _ _ G1''.out G3.out).mono ?_
  rintro e w4 ⟨A4, n4, c4, rfl, g4, b4⟩
  have G4 := Lh g4
  have B4 := Lh (Aa B3.out b4)
  clear g4 b4
  go_wp2_with fail
  refine Sm (C7.out _ _ _ _ G4.out) ?_
  go_wp2_with fail
  refine Bm (C8.out _) fun w5 b5 => ?_
  have B5 := Lh (Aa B4.out b5)
  clear b5
  go_wp2
  go_ret
  exact ⟨rfl, B5.out⟩


end
section
theorem Ae8 {q s : Nat} (hq : q < 9223372036854775808) (hs : s ≤ 1) : q ||| s < 9223372036854775808 ∧ q ≤ q ||| s := by
 refine ⟨?_, Nat.left_le_or⟩
 have : q ||| s < 2 ^ 63 := Nat.or_lt_two_pow (by rw [show (2 : Nat) ^ 63 = 9223372036854775808 by decide]; exact hq) (by rw [show (2 : Nat) ^ 63 = 9223372036854775808 by decide]; omega)
 rw [show (2 : Nat) ^ 63 = 9223372036854775808 by decide] at this
 exact this
theorem J0 {w : World} {A : Option Addr} {n c m : Nat} (ten : Int) (hA : NV w A n c m) (hm : bln m ≤ 3300) (h0 : 0 < m) (ht1 : -1200 ≤ ten) (ht2 : ten ≤ 400) :
  Cp 263 #[.slice A n c, .int .i64 ten] w (Akk m ten w) := by
 have f1 := Oh ten.toNat
 have f2 := Oh (-ten).toNat
 have g1 := F3 m (5 ^ ten.toNat)
 have p1 : 0 < 5 ^ ten.toNat := Nat.pow_pos (by omega)
 have p2 : 0 < 5 ^ (-ten).toNat := Nat.pow_pos (by omega)
 have e1 : 1 * 5 ^ (-ten).toNat = 5 ^ (-ten).toNat := Nat.one_mul _
 have C1 := Lh (fun W (h : NV W A n c m) => Lp ten h (by omega) (by omega) (by omega))
 have C3 := Lh (fun W A1 n1 c1 (h : NV W A1 n1 c1 1) => Lp (-ten) h (by rw [show bln 1 = 1 by decide]; omega) (by omega) (by omega))
 rw [e1] at C3
 obtain ⟨T, hT⟩ : ∃ T, m * 5 ^ ten.toNat = T := ⟨_, rfl⟩
 obtain ⟨B, hB⟩ : ∃ B, 5 ^ (-ten).toNat = B := ⟨_, rfl⟩
 have hT0 : 0 < T := by rw [← hT]; exact Nat.mul_pos h0 p1
 rw [hT] at C1 g1
 rw [hB] at C3 f2 p2
 obtain ⟨u1, u2, u3⟩ := Ck hT0
 obtain ⟨v1, v2, v3⟩ := Ck p2
 have C4 := Lh (fun W A1 n1 c1 (h : NV W A1 n1 c1 T) => Aix h (by omega))
 have C5 := Lh (fun W A1 n1 c1 (h : NV W A1 n1 c1 B) => Aix h (by omega))
 have cr := fun (t : Int) (h1 : -8000 ≤ t) (h2 : t ≤ 8000) W A1 n1 c1 A2 n2 c2 (h : NV W A1 n1 c1 T) (g : NV W A2 n2 c2 B) => Wq t h g (by omega) (by omega) p2 h1 h2
 obtain ⟨bt, hbt⟩ : ∃ bt, bln T = bt := ⟨_, rfl⟩
 obtain ⟨bb, hbb⟩ : ∃ bb, bln B = bb := ⟨_, rfl⟩
 rw [hbt] at C4 u1 u2 u3 g1
 rw [hbb] at C5 v1 v2 v3 f2
 obtain ⟨p, rfl⟩ : ∃ p, bt = p + 1 := ⟨bt - 1, by omega⟩
 obtain ⟨r, rfl⟩ : ∃ r, bb = r + 1 := ⟨bb - 1, by omega⟩
 rw [Nat.add_sub_cancel] at u1 v1
 obtain ⟨x1, hx1⟩ : ∃ x1, ((p + 1 : Nat) : Int) - ((r + 1 : Nat) : Int) = x1 := ⟨_, rfl⟩
 obtain ⟨x2, hx2⟩ : ∃ x2, x1 + ten = x2 := ⟨_, rfl⟩
 obtain ⟨x3, hx3⟩ : ∃ x3, x2 - 62 = x3 := ⟨_, rfl⟩
 obtain ⟨last, hlast⟩ : ∃ last, max x3 (-1076) = last := ⟨_, rfl⟩
 obtain ⟨two, htwo⟩ : ∃ two, ten - last = two := ⟨_, rfl⟩
 have C6 := cr two (by omega) (by omega)
 obtain ⟨q1, q2⟩ := Ko (x := two.toNat) (y := (-two).toNat) u1 u2 v1 v2 63
 have q3 := (Ko (x := two.toNat) (y := (-two).toNat) u1 u2 v1 v2 60).2
 have hql := q1 (by omega)
 have hqb : last = -1076 ∨ 2 ^ 60 ≤ T * 2 ^ two.toNat / (B * 2 ^ (-two).toNat) := by
  by_cases hh : last = -1076
  ·exact Or.inl hh
  ·exact Or.inr (q3 (by omega))
 obtain ⟨N, hN⟩ : ∃ N, T * 2 ^ two.toNat = N := ⟨_, rfl⟩
 obtain ⟨d, hd⟩ : ∃ d, B * 2 ^ (-two).toNat = d := ⟨_, rfl⟩
 have hd0 : 0 < d := by rw [← hd]; exact Nat.mul_pos p2 (Da _)
 rw [hN, hd] at C6 hql hqb
 obtain ⟨q, hq⟩ : ∃ q, N / d = q := ⟨_, rfl⟩
 obtain ⟨t, ht⟩ : ∃ t, N % d = t := ⟨_, rfl⟩
 have hNd : N = q * d + t := by rw [← hq, ← ht, Nat.mul_comm]; exact (Nat.div_add_mod N d).symm
 have htd : t < d := by rw [← ht]; exact Nat.mod_lt _ hd0
 unfold Aj9 at C6
 rw [ht, hq] at C6
 rw [hq] at hql hqb
 rw [show (2 : Nat) ^ 63 = 9223372036854775808 by decide] at hql
 obtain ⟨s, hs⟩ : ∃ s, (if t = 0 then 0 else 1) = s := ⟨_, rfl⟩
 have hs1 : s ≤ 1 := by rw [← hs]; split <;> omega
 obtain ⟨o1, o2⟩ := Ae8 hql hs1
 obtain ⟨nn, hnn⟩ : ∃ nn, q ||| s = nn := ⟨_, rfl⟩
 have key := Aar (m := m) (N := N) (n := d) (q := q) (t := t) (s := s) (ten := ten) (last := last) (by rw [← hN, ← hT, htwo]) (by rw [← hd, ← hB, show last - ten = -two by omega]) hNd htd hs.symm hqb
 rw [hnn] at key o1 o2
 have C8 := fun W => R7 nn last W o1 (by omega) (by omega) (by
  rcases hqb with h | h
  ·exact Or.inl h
  ·exact Or.inr (Nat.le_trans h o2))
 rw [← key] at C8
 refine Ot (q := q) (nn := nn) (two := two) (last := last) (x1 := x1) (x2 := x2) (x3 := x3) (ex := decide (t = 0)) hA C1 C3 C4 C5 (Lh C6)
  (Lh (fun W A1 n1 c1 h => Acq h (by omega))) (Lh C8) (IntWalk.i64_in _ (by omega)) (by rw [IntWalk.i64_in _ (by omega)]; exact hx1) (by rw [IntWalk.i64_in _ (by omega)]; exact hx2) (by rw [IntWalk.i64_in _ (by omega)]; exact hx3) hlast (by rw [IntWalk.i64_in _ (by omega)]; exact htwo) ?_
 by_cases h : t = 0
 ·refine Or.inl ⟨decide_eq_true h, ?_⟩
  rw [← hnn, ← hs, if_pos h, Nat.or_zero]
 ·refine Or.inr ⟨decide_eq_false h, ?_⟩
  have := Gp q 1 (by omega) (by omega)
  rw [show ((1 : Nat) : Int) = 1 from rfl] at this
  rw [this, ← hnn, ← hs, if_neg h]


end
section
theorem Zn (s : ByteArray) (w : World) : Ct 259 #[.string s, .string ⟨#[48]⟩] (.string (Ad (ldz (bl s)))) w := by
 have h := Tryz.strings_TrimLeft_laid s ⟨#[48]⟩ w (by decide) (fun j b hb => by
  have h1 : b ∈ ([48] : List UInt8) := List.mem_of_getElem? hb
  simp at h1
  rw [h1]
  decide)
 rw [show (⟨#[48]⟩ : ByteArray).data.toList = [48] from rfl, Aj4] at h
 exact h
theorem Aig (s : ByteArray) (w : World) (hs : s.size ≤ 9223372036854775807) : Ct 260 #[.string s, .string ⟨#[48]⟩] (.string (Ad (trz (bl s)))) w := by
 have h := Tryz.strings_TrimRight_laid s ⟨#[48]⟩ w hs (by decide) (fun j b hb => by
  have h1 : b ∈ ([48] : List UInt8) := List.mem_of_getElem? hb
  simp at h1
  rw [h1]
  decide)
 rw [show (⟨#[48]⟩ : ByteArray).data.toList = [48] from rfl, Aj3] at h
 exact h
theorem Ry (s : ByteArray) (i : Nat) (h : i < s.size) : btn s i = (bl s).getD i 0 := by
 rw [List.getD_eq_getElem?_getD, Cg s i h]
 exact (Dd s i h).symm
theorem Q9 (r : Nat) (s : ByteArray) : sv r s = num r (bl s) := by
 unfold sv num
 rw [Bj]
 exact He (fun i hi => by rw [Ry s i hi])
theorem Ze {r : Nat} {s : ByteArray} (h0 : bl s ≠ []) (h : ∀ c ∈ bl s, dgt c < r) : adB r s = true := by
 rw [Zu (fun i hi => by
  rw [Ry s i hi, List.getD_eq_getElem?_getD, List.getElem?_eq_getElem (by rw [Bj]; exact hi)]
  exact h _ (List.getElem_mem _))]
 have : 0 < (bl s).length := List.length_pos_iff.2 h0
 rw [Bj] at this
 exact decide_eq_true this
theorem Vb (s1 s2 g h : ByteArray) (X y P : Int) (w : World) (hs1 : s1.size + s2.size ≤ 4611686018427387903)
  (C1 : Hid (∀ W, Ct 259 #[.string (s1 ++ s2), .string ⟨#[48]⟩] (.string g) W))
  (C2 : Hid (∀ W, Ct 260 #[.string g, .string ⟨#[48]⟩] (.string h) W))
  (k1 : IntKind.i64.wrap ((g.size : Int) - (s2.size : Int)) = y) (k2 : IntKind.i64.wrap (y + X) = P)
  (t1 : h.toList.isEmpty = true) :
  Ct 200 #[.agg #[.string s1, .string s2, .int .i64 X]] (.float .f64 0) w := by
 have hs2 : ¬ 9223372036854775807 < s1.size + s2.size := by omega
 have R0 := Lh (show Rc (w.alloc (.cells #[.string s1, .string s2, .int .i64 X] 146)) w.heap.size (.string s1) (.string s2) (.int .i64 X) from heap_alloc_last w _)
 have B0 := Lh (show Below w.heap.size w (w.alloc (.cells #[.string s1, .string s2, .int .i64 X] 146)) from (Below.refl _ _).alloc (Nat.le_refl _) _)
 have S0 := Lh (show w.heap.size < (w.alloc (.cells #[.string s1, .string s2, .int .i64 X] 146)).heap.size by simp)
 clear hs1
 go_enter Tryz.func200, Tryz.ntmps200
 go_wp2_with fail
 refine Bm (C1.out _) fun w1 b1 => ?_
 have R1 := Lh (R0.out.below b1 S0.out)
 have B1 := Lh (Aa B0.out b1)
 clear b1
 obtain ⟨c0, c1, c2, _⟩ := R1.out.cells
 go_wp2_with fail
 refine Bm (C2.out _) fun w2 b2 => ?_
 have B2 := Lh (Aa B1.out b2)
 clear b2
 go_wp2
 go_ret
 exact ⟨rfl, B2.out⟩
theorem Yk (s1 s2 g h : ByteArray) (X y P : Int) (w : World) (hs1 : s1.size + s2.size ≤ 4611686018427387903)
  (C1 : Hid (∀ W, Ct 259 #[.string (s1 ++ s2), .string ⟨#[48]⟩] (.string g) W))
  (C2 : Hid (∀ W, Ct 260 #[.string g, .string ⟨#[48]⟩] (.string h) W))
  (k1 : IntKind.i64.wrap ((g.size : Int) - (s2.size : Int)) = y) (k2 : IntKind.i64.wrap (y + X) = P)
  (t1 : h.toList.isEmpty = false) (t2 : decide (P < -323) = true) :
  Ct 200 #[.agg #[.string s1, .string s2, .int .i64 X]] (.float .f64 0) w := by
 have hs2 : ¬ 9223372036854775807 < s1.size + s2.size := by omega
 have R0 := Lh (show Rc (w.alloc (.cells #[.string s1, .string s2, .int .i64 X] 146)) w.heap.size (.string s1) (.string s2) (.int .i64 X) from heap_alloc_last w _)
 have B0 := Lh (show Below w.heap.size w (w.alloc (.cells #[.string s1, .string s2, .int .i64 X] 146)) from (Below.refl _ _).alloc (Nat.le_refl _) _)
 have S0 := Lh (show w.heap.size < (w.alloc (.cells #[.string s1, .string s2, .int .i64 X] 146)).heap.size by simp)
 clear hs1
 go_enter Tryz.func200, Tryz.ntmps200
 go_wp2_with fail
 refine Bm (C1.out _) fun w1 b1 => ?_
 have R1 := Lh (R0.out.below b1 S0.out)
 have B1 := Lh (Aa B0.out b1)
 clear b1
 obtain ⟨c0, c1, c2, _⟩ := R1.out.cells
 go_wp2_with fail
 refine Bm (C2.out _) fun w2 b2 => ?_
 have B2 := Lh (Aa B1.out b2)
 clear b2
 go_wp2
 go_ret
 exact ⟨rfl, B2.out⟩
theorem U4 (s1 s2 g h : ByteArray) (X y P : Int) (w : World) (hs1 : s1.size + s2.size ≤ 4611686018427387903)
  (C1 : Hid (∀ W, Ct 259 #[.string (s1 ++ s2), .string ⟨#[48]⟩] (.string g) W))
  (C2 : Hid (∀ W, Ct 260 #[.string g, .string ⟨#[48]⟩] (.string h) W))
  (k1 : IntKind.i64.wrap ((g.size : Int) - (s2.size : Int)) = y) (k2 : IntKind.i64.wrap (y + X) = P)
  (t1 : h.toList.isEmpty = false) (t2 : decide (P < -323) = false) (t3 : decide (309 < P) = true) :
  Ct 200 #[.agg #[.string s1, .string s2, .int .i64 X]] (.float .f64 9218868437227405312) w := by
 have hs2 : ¬ 9223372036854775807 < s1.size + s2.size := by omega
 have R0 := Lh (show Rc (w.alloc (.cells #[.string s1, .string s2, .int .i64 X] 146)) w.heap.size (.string s1) (.string s2) (.int .i64 X) from heap_alloc_last w _)
 have B0 := Lh (show Below w.heap.size w (w.alloc (.cells #[.string s1, .string s2, .int .i64 X] 146)) from (Below.refl _ _).alloc (Nat.le_refl _) _)
 have S0 := Lh (show w.heap.size < (w.alloc (.cells #[.string s1, .string s2, .int .i64 X] 146)).heap.size by simp)
 clear hs1
 go_enter Tryz.func200, Tryz.ntmps200
 go_wp2_with fail
 refine Bm (C1.out _) fun w1 b1 => ?_
 have R1 := Lh (R0.out.below b1 S0.out)
 have B1 := Lh (Aa B0.out b1)
 clear b1
 obtain ⟨c0, c1, c2, _⟩ := R1.out.cells
 go_wp2_with fail
 refine Bm (C2.out _) fun w2 b2 => ?_
 have B2 := Lh (Aa B1.out b2)
 clear b2
 have C3 := Lh (fun W => Fi W)
 go_wp2_with fail
 refine Sm (C3.out _) ?_
 go_wp2
 go_ret
 exact ⟨rfl, B2.out⟩
theorem Qs (s1 s2 g h : ByteArray) (X y P : Int) (Z : Int) (m F : Nat) (w : World) (hs1 : s1.size + s2.size ≤ 4611686018427387903)
  (C1 : Hid (∀ W, Ct 259 #[.string (s1 ++ s2), .string ⟨#[48]⟩] (.string g) W))
  (C2 : Hid (∀ W, Ct 260 #[.string g, .string ⟨#[48]⟩] (.string h) W))
  (k1 : IntKind.i64.wrap ((g.size : Int) - (s2.size : Int)) = y) (k2 : IntKind.i64.wrap (y + X) = P)
  (t1 : h.toList.isEmpty = false) (t2 : decide (P < -323) = false) (t3 : decide (309 < P) = false) (t4 : decide (800 < (h.size : Int)) = false)
  (k3 : IntKind.i64.wrap (P - (h.size : Int)) = Z)
  (C3 : Hid (∀ W, Cp 262 #[.string h, .int .i64 10] W (NOk m W)))
  (C4 : Hid (∀ W A n c, NV W A n c m → Ct 263 #[.slice A n c, .int .i64 Z] (.float .f64 F) W)) :
  Ct 200 #[.agg #[.string s1, .string s2, .int .i64 X]] (.float .f64 F) w := by
 have hs2 : ¬ 9223372036854775807 < s1.size + s2.size := by omega
 have R0 := Lh (show Rc (w.alloc (.cells #[.string s1, .string s2, .int .i64 X] 146)) w.heap.size (.string s1) (.string s2) (.int .i64 X) from heap_alloc_last w _)
 have B0 := Lh (show Below w.heap.size w (w.alloc (.cells #[.string s1, .string s2, .int .i64 X] 146)) from (Below.refl _ _).alloc (Nat.le_refl _) _)
 have S0 := Lh (show w.heap.size < (w.alloc (.cells #[.string s1, .string s2, .int .i64 X] 146)).heap.size by simp)
 clear hs1
 go_enter Tryz.func200, Tryz.ntmps200
 go_wp2_with fail
 refine Bm (C1.out _) fun w1 b1 => ?_
 have R1 := Lh (R0.out.below b1 S0.out)
 have B1 := Lh (Aa B0.out b1)
 clear b1
 obtain ⟨c0, c1, c2, _⟩ := R1.out.cells
 go_wp2_with fail
 refine Bm (C2.out _) fun w2 b2 => ?_
 have B2 := Lh (Aa B1.out b2)
 clear b2
 go_wp2_with fail
 refine (C3.out _).mono ?_
 rintro e w3 ⟨A, n, c, rfl, g3, b3⟩
 have G3 := Lh g3
 have B3 := Lh (Aa B2.out b3)
 clear g3 b3
 go_wp2_with fail
 refine Bm (C4.out _ _ _ _ G3.out) fun w4 b4 => ?_
 have B4 := Lh (Aa B3.out b4)
 clear b4
 go_wp2
 go_ret
 exact ⟨rfl, B4.out⟩
theorem Tf (s1 s2 g h : ByteArray) (X y P : Int) (Z : Int) (m F : Nat) (w : World) (hs1 : s1.size + s2.size ≤ 4611686018427387903)
  (C1 : Hid (∀ W, Ct 259 #[.string (s1 ++ s2), .string ⟨#[48]⟩] (.string g) W))
  (C2 : Hid (∀ W, Ct 260 #[.string g, .string ⟨#[48]⟩] (.string h) W))
  (k1 : IntKind.i64.wrap ((g.size : Int) - (s2.size : Int)) = y) (k2 : IntKind.i64.wrap (y + X) = P)
  (t1 : h.toList.isEmpty = false) (t2 : decide (P < -323) = false) (t3 : decide (309 < P) = false) (t4 : decide (800 < (h.size : Int)) = true) (t5 : (800 : Int) ≤ (h.size : Int)) (t6 : (h.extract 0 800).size = 800)
  (k3 : IntKind.i64.wrap (P - 801) = Z)
  (C3 : Hid (∀ W, Cp 262 #[.string (h.extract 0 800 ++ ⟨#[49]⟩), .int .i64 10] W (NOk m W)))
  (C4 : Hid (∀ W A n c, NV W A n c m → Ct 263 #[.slice A n c, .int .i64 Z] (.float .f64 F) W)) :
  Ct 200 #[.agg #[.string s1, .string s2, .int .i64 X]] (.float .f64 F) w := by
 have hs2 : ¬ 9223372036854775807 < s1.size + s2.size := by omega
 have R0 := Lh (show Rc (w.alloc (.cells #[.string s1, .string s2, .int .i64 X] 146)) w.heap.size (.string s1) (.string s2) (.int .i64 X) from heap_alloc_last w _)
 have B0 := Lh (show Below w.heap.size w (w.alloc (.cells #[.string s1, .string s2, .int .i64 X] 146)) from (Below.refl _ _).alloc (Nat.le_refl _) _)
 have S0 := Lh (show w.heap.size < (w.alloc (.cells #[.string s1, .string s2, .int .i64 X] 146)).heap.size by simp)
 clear hs1
 go_enter Tryz.func200, Tryz.ntmps200
 go_wp2_with fail
 refine Bm (C1.out _) fun w1 b1 => ?_
 have R1 := Lh (R0.out.below b1 S0.out)
 have B1 := Lh (Aa B0.out b1)
 clear b1
 obtain ⟨c0, c1, c2, _⟩ := R1.out.cells
 go_wp2_with fail
 refine Bm (C2.out _) fun w2 b2 => ?_
 have B2 := Lh (Aa B1.out b2)
 clear b2
 go_wp2_with fail
 refine (C3.out _).mono ?_
 rintro e w3 ⟨A, n, c, rfl, g3, b3⟩
 have G3 := Lh g3
 have B3 := Lh (Aa B2.out b3)
 clear g3 b3
 go_wp2_with fail
 refine Bm (C4.out _ _ _ _ G3.out) fun w4 b4 => ?_
 have B4 := Lh (Aa B3.out b4)
 clear b4
 go_wp2
 go_ret
 exact ⟨rfl, B4.out⟩


end
section
theorem F0 {l : List Nat} (h : ∀ c ∈ l, Ah c = true) : ∀ c ∈ l, c < 256 := fun c hc => by
 have := Ca.1 (h c hc)
 omega
theorem P5 (l : List Nat) (w : World) (hd : ∀ c ∈ l, Ah c = true) (h0 : l ≠ []) (hl : l.length ≤ 801) : Cp 262 #[.string (Ad l), .int .i64 10] w (NOk (num 10 l) w) := by
 have hb := Al (F0 hd)
 have h := Ti (Ad l) 10 w (by rw [Ak]; omega) (by omega) (by omega) (Ze (by rw [hb]; exact h0) (by rw [hb]; exact fun c hc => (Jh (hd c hc)).2))
 rw [Q9, hb] at h
 refine h.mono fun e w' x => NOk.of (Ee ?_) x
 have h1 := Hu hd
 have h2 := Dr (Nat.le_of_lt h1)
 have h3 := Gs l.length
 omega
theorem Zt {l : List Nat} (hd : ∀ c ∈ l, Ah c = true) (hl : l.length ≤ 801) : bln (num 10 l) ≤ 3300 := by
 have h2 := Dr (Nat.le_of_lt (Hu hd))
 have h3 := Gs l.length
 omega
theorem Yp (W F : List Nat) (X : Int) (w : World) (hW : ∀ c ∈ W, Ah c = true) (hF : ∀ c ∈ F, Ah c = true) (hs : W.length + F.length ≤ 4611686018427387903) (hX : -10995116277760 < X ∧ X < 10995116277760) :
  Ct 200 #[.agg #[.string (Ad W), .string (Ad F), .int .i64 X]] (.float .f64 (Bq (num 10 (W ++ F)) (X - F.length))) w := by
 obtain ⟨f, hf⟩ : ∃ f, W ++ F = f := ⟨_, rfl⟩
 have hd : ∀ c ∈ f, Ah c = true := by
  intro c hc
  rw [← hf] at hc
  rcases List.mem_append.1 hc with h | h
  ·exact hW c h
  ·exact hF c h
 have hfl : f.length = W.length + F.length := by rw [← hf, List.length_append]
 rw [hf]
 have hg : ∀ c ∈ ldz f, Ah c = true := fun c hc => hd c (Eu hc)
 have hh : ∀ c ∈ trz (ldz f), Ah c = true := fun c hc => hg c (Aaa hc)
 have hgl : (ldz f).length ≤ f.length := (List.dropWhile_sublist _).length_le
 have htl := Qv (ldz f)
 have hcat : Ad W ++ Ad F = Ad f := by rw [Fb, hf]
 have C1 : Hid (∀ V, Ct 259 #[.string (Ad W ++ Ad F), .string ⟨#[48]⟩] (.string (Ad (ldz f))) V) := Lh (fun V => by
  have := Zn (Ad f) V
  rw [Al (F0 hd)] at this
  rw [hcat]
  exact this)
 have C2 : Hid (∀ V, Ct 260 #[.string (Ad (ldz f)), .string ⟨#[48]⟩] (.string (Ad (trz (ldz f)))) V) := Lh (fun V => by
  have := Aig (Ad (ldz f)) V (by rw [Ak]; omega)
  rw [Al (F0 hg)] at this
  exact this)
 have z1 := Ak (ldz f)
 have z2 := Ak F
 have z3 := Ak (trz (ldz f))
 have z4 := Ak W
 obtain ⟨P, hP⟩ : ∃ P, ((ldz f).length : Int) + (X - F.length) = P := ⟨_, rfl⟩
 have k1 : IntKind.i64.wrap (((Ad (ldz f)).size : Int) - ((Ad F).size : Int)) = ((ldz f).length : Int) - F.length := by rw [z1, z2]; exact IntWalk.i64_in _ (by omega)
 have k2 : IntKind.i64.wrap (((ldz f).length : Int) - F.length + X) = P := by rw [IntWalk.i64_in _ (by omega)]; omega
 by_cases h0 : trz (ldz f) = []
 ·rw [Aby h0]
  exact Vb _ _ _ _ X _ P w (by omega) C1 C2 k1 k2 (by rw [h0, Lib.toList_data]; rfl)
 ·have t1 := (Kt h0).2
  by_cases h1 : P < -323
  ·rw [Af3 hd (by omega)]
   exact Yk _ _ _ _ X _ P w (by omega) C1 C2 k1 k2 t1 (decide_eq_true h1)
  ·by_cases h2 : 309 < P
   ·rw [Aax hd h0 (by omega)]
    exact U4 _ _ _ _ X _ P w (by omega) C1 C2 k1 k2 t1 (decide_eq_false h1) (decide_eq_true h2)
   ·by_cases h3 : 800 < (trz (ldz f)).length
    ·rw [Abj hd h3 (by omega), show ((ldz f).length : Int) + (X - F.length) - 801 = P - 801 by omega]
     obtain ⟨l, hl⟩ : ∃ l, (trz (ldz f)).take 800 ++ [49] = l := ⟨_, rfl⟩
     have ll : l.length = 801 := by rw [← hl, List.length_append, List.length_take]; simp; omega
     have ld : ∀ c ∈ l, Ah c = true := by
      intro c hc
      rw [← hl] at hc
      rcases List.mem_append.1 hc with h | h
      ·exact hh c (List.mem_of_mem_take h)
      ·rw [List.mem_singleton.1 h]; rfl
     have lh : l.head? ≠ some 48 := by
      rw [← hl]
      have := Nl (Bx f)
      cases ht : trz (ldz f) with
      | nil => exact absurd ht h0
      | cons a b =>
       rw [show List.dropWhile (fun x => x == 48) f = ldz f from rfl, ht] at this
       exact this
     have l0 : l ≠ [] := fun e => by rw [e] at ll; simp at ll
     have lp : 0 < num 10 l := Nat.lt_of_lt_of_le (Bv _) (Hv ld l0 lh)
     have hstr : (Ad (trz (ldz f))).extract 0 800 ++ (⟨#[49]⟩ : ByteArray) = Ad l := by
      rw [Gj, Al (F0 hh), ← hl, ← Fb]
      rfl
     rw [hl]
     have t5 : (800 : Int) ≤ ((Ad (trz (ldz f))).size : Int) := by rw [z3]; omega
     have t4 : decide (800 < ((Ad (trz (ldz f))).size : Int)) = true := decide_eq_true (by rw [z3]; omega)
     have t6 : ((Ad (trz (ldz f))).extract 0 800).size = 800 := by
      rw [Gj, Al (F0 hh), Ak, List.length_take]
      exact Nat.min_eq_left (by omega)
     have k3 : IntKind.i64.wrap (P - 801) = P - 801 := IntWalk.i64_in _ (by omega)
     have C3 : Hid (∀ V, Cp 262 #[.string ((Ad (trz (ldz f))).extract 0 800 ++ (⟨#[49]⟩ : ByteArray)), .int .i64 10] V (NOk (num 10 l) V)) := Lh (fun V => by
      rw [hstr]
      exact P5 l V ld l0 (by omega))
     have C4 : Hid (∀ V A n c, NV V A n c (num 10 l) → Ct 263 #[.slice A n c, .int .i64 (P - 801)] (.float .f64 (Bq (num 10 l) (P - 801))) V) := Lh (fun V A n c h => J0 (P - 801) h (Zt ld (by omega)) lp (by omega) (by omega))
     exact Tf _ _ _ _ X _ P _ (num 10 l) _ w (by omega) C1 C2 k1 k2 t1 (decide_eq_false h1) (decide_eq_false h2) t4 t5 t6 k3 C3 C4
    ·rw [M5, show ((ldz f).length : Int) + (X - F.length) - (trz (ldz f)).length = P - (trz (ldz f)).length by omega]
     have lp : 0 < num 10 (trz (ldz f)) := Nat.lt_of_lt_of_le (Bv _) (Hv hh h0 (Nl (Bx f)))
     have C3 : Hid (∀ V, Cp 262 #[.string (Ad (trz (ldz f))), .int .i64 10] V (NOk (num 10 (trz (ldz f))) V)) := Lh (fun V => P5 _ V hh h0 (by omega))
     obtain ⟨Z, hZ⟩ : ∃ Z, P - ((trz (ldz f)).length : Int) = Z := ⟨_, rfl⟩
     rw [hZ]
     have C4 : Hid (∀ V A n c, NV V A n c (num 10 (trz (ldz f))) → Ct 263 #[.slice A n c, .int .i64 Z] (.float .f64 (Bq (num 10 (trz (ldz f))) Z)) V) := Lh (fun V A n c h => J0 Z h (Zt hh (by omega)) lp (by omega) (by omega))
     have k3 : IntKind.i64.wrap (P - ((Ad (trz (ldz f))).size : Int)) = Z := by rw [z3, ← hZ]; exact IntWalk.i64_in _ (by omega)
     have t4 : decide (800 < ((Ad (trz (ldz f))).size : Int)) = false := decide_eq_false (by rw [z3]; omega)
     exact Qs _ _ _ _ X _ P Z (num 10 (trz (ldz f))) _ w (by omega) C1 C2 k1 k2 t1 (decide_eq_false h1) (decide_eq_false h2) t4 k3 C3 C4
theorem Wz (l : List Nat) (w : World) (hs : l.length ≤ 4611686018427387903) :
  Ct 200 #[.agg #[.string (Ad (dW l)), .string (Ad (dF l)), .int .i64 (dX l)]] (.float .f64 (dV l)) w := by
 have h1 := Cf l
 have h2 : (dF l).length ≤ (Ai l).length := by
  unfold dF
  split
  ·have := Cf (Ai l).tail
   rw [List.length_tail] at this
   omega
  ·simp
 refine Yp (dW l) (dF l) (dX l) w (Br l) ?_ (by unfold dW; omega) (Yi _)
 intro c hc
 unfold dF at hc
 split at hc
 ·exact Br _ c hc
 ·simp at hc


end
section
theorem Aim (N : Nat) : fl N = Bq N 0 := by
 obtain ⟨K, hK, hd⟩ := Fp
 rw [J8, Adr false (a := K) (b := 0) (by omega), hd, show (0 : Int).toNat = 0 from rfl, show (-(0 : Int)).toNat = 0 from rfl, Nat.pow_zero, Nat.mul_one, Kh]
theorem S5 {N : Nat} {D : Nat} (hD : D = 1024) (h : 2 ^ D ≤ N) : Bq N 0 = 9218868437227405312 := by
 obtain ⟨K, hK, hd⟩ := Fp
 rw [hd]
 refine Aad (Bv _) ?_
 obtain ⟨E, hE⟩ : ∃ E : Nat, E = 2046 := ⟨_, rfl⟩
 have e1 := Ba 4503599627370496 E (by omega) (by omega)
 rw [show E * 4503599627370496 + 4503599627370496 = 9218868437227405312 by omega] at e1
 rw [e1, show (0 : Int).toNat = 0 from rfl, show (-(0 : Int)).toNat = 0 from rfl, Nat.pow_zero, Nat.mul_one, Nat.mul_one]
 have h2 : 4503599627370496 * 2 ^ E = 2 ^ D * 2 ^ K := by
  rw [show (4503599627370496 : Nat) = 2 ^ 52 from rfl, ← Nat.pow_add, ← Nat.pow_add]
  exact congrArg (fun k => 2 ^ k) (show 52 + E = D + K by omega)
 rw [h2]
 exact Nat.mul_le_mul_right _ h
theorem Ae7 {c : Nat} (h : dgt c = 0) : c = 48 := by
 unfold dgt at h
 split at h
 ·omega
 ·split at h
  ·omega
  ·split at h <;> omega
theorem Vv {r : Nat} {g : List Nat} (h0 : g ≠ []) (hh : g.head? ≠ some 48) : r ^ (g.length - 1) ≤ num r g := by
 cases g with
 | nil => exact absurd rfl h0
 | cons c l =>
  have h1 : dgt c ≠ 0 := fun e => hh (by rw [Ae7 e]; rfl)
  rw [F8]
  have h3 : 1 * r ^ l.length ≤ dgt c * r ^ l.length := Nat.mul_le_mul_right _ (by omega)
  simp only [List.length_cons, Nat.add_sub_cancel]
  omega
theorem V7 (s g : ByteArray) (r : Nat) (w : World)
  (C1 : Hid (∀ W, Ct 259 #[.string s, .string ⟨#[48]⟩] (.string g) W)) (t1 : decide (1024 < (g.size : Int)) = true) :
  Ct 256 #[.string s, .int .i64 r] (.float .f64 9218868437227405312) w := by
 have C2 := Lh (fun W => Fi W)
 go_enter Tryz.func256, Tryz.ntmps256
 go_wp2_with fail
 refine Bm (C1.out _) fun w1 b1 => ?_
 go_wp2_with fail
 refine Sm (C2.out _) ?_
 go_wp2
 go_ret
 exact ⟨rfl, b1⟩
theorem V3 (s g : ByteArray) (r N : Nat) (w : World)
  (C1 : Hid (∀ W, Ct 259 #[.string s, .string ⟨#[48]⟩] (.string g) W)) (t1 : decide (1024 < (g.size : Int)) = false)
  (C2 : Hid (∀ W, Cp 262 #[.string s, .int .i64 r] W (NOk N W)))
  (C3 : Hid (∀ W A n c, NV W A n c N → Ct 285 #[.slice A n c] (.float .f64 (fl N)) W)) :
  Ct 256 #[.string s, .int .i64 r] (.float .f64 (fl N)) w := by
 go_enter Tryz.func256, Tryz.ntmps256
 go_wp2_with fail
 refine Bm (C1.out _) fun w1 b1 => ?_
 have B1 := Lh b1
 clear b1
 go_wp2_with fail
 refine (C2.out _).mono ?_
 rintro e w2 ⟨A, n, c, rfl, g2, b2⟩
 have G2 := Lh g2
 have B2 := Lh (Aa B1.out b2)
 clear g2 b2
 go_wp2_with fail
 refine Bm (C3.out _ _ _ _ G2.out) fun w3 b3 => ?_
 have B3 := Lh (Aa B2.out b3)
 clear b3
 go_wp2
 go_ret
 exact ⟨rfl, B3.out⟩
theorem Pa (r : Nat) (l : List Nat) : F6 r (ldz l) = F6 r l := by unfold F6 ldz; rw [Ch]
theorem V5 (l : List Nat) (r : Nat) (w : World) (h2 : 2 ≤ r) (h36 : r ≤ 36) (h0 : l ≠ []) (hd : ∀ c ∈ l, dgt c < r) (hb : ∀ c ∈ l, c < 256) (hs : l.length ≤ 4611686018427387903) :
  Ct 256 #[.string (Ad l), .int .i64 r] (.float .f64 (F6 r l)) w := by
 have C1 : Hid (∀ V, Ct 259 #[.string (Ad l), .string ⟨#[48]⟩] (.string (Ad (ldz l))) V) := Lh (fun V => by
  have := Zn (Ad l) V
  rw [Al hb] at this
  exact this)
 have z1 := Ak (ldz l)
 by_cases h : 1024 < (ldz l).length
 ·have key : F6 r l = 9218868437227405312 := by
   rw [← Pa]
   obtain ⟨D, hD⟩ : ∃ D : Nat, D = 1024 := ⟨_, rfl⟩
   refine S5 hD ?_
   refine Nat.le_trans ?_ (Vv (r := r) (fun e => by rw [e] at h; simp at h) (Bx l))
   exact Nat.le_trans (Nat.pow_le_pow_left h2 D) (Nat.pow_le_pow_right (by omega) (by omega))
  rw [key]
  exact V7 _ _ r w C1 (decide_eq_true (by rw [z1]; omega))
 ·have hdl : ∀ c ∈ ldz l, dgt c < r := fun c hc => hd c (Eu hc)
  have hnum : num r (ldz l) = num r l := Ch r l
  have hbn : bln (num r l) ≤ 30000 := by
   rw [← hnum]
   have a1 := Dr (Nat.le_of_lt (Xn hdl))
   have a2 := Mj r (ldz l).length
   have a3 : bln r ≤ 6 := Km (by omega)
   have a4 : bln r * (ldz l).length ≤ 6 * 1024 := Nat.mul_le_mul a3 (by omega)
   omega
  have C2 : Hid (∀ V, Cp 262 #[.string (Ad l), .int .i64 r] V (NOk (num r l) V)) := Lh (fun V => by
   have hbl := Al hb
   have h := Ti (Ad l) r V (by rw [Ak]; exact hs) h2 h36 (Ze (by rw [hbl]; exact h0) (by rw [hbl]; exact hd))
   rw [Q9, hbl] at h
   exact h.mono fun e w' x => NOk.of (Ee hbn) x)
  have C3 : Hid (∀ V A n c, NV V A n c (num r l) → Ct 285 #[.slice A n c] (.float .f64 (fl (num r l))) V) := Lh (fun V A n c g => by
   have a1 := Bf hbn
   rw [g.len] at a1
   have := Wu A n c (wds (num r l)) V g.len g.cap (by omega) g.row
   rw [Ag] at this
   exact this)
  have key : F6 r l = fl (num r l) := (Aim _).symm
  rw [key]
  exact V3 _ _ r _ w C1 (decide_eq_false (by rw [z1]; omega)) C2 C3


end
section
theorem Ab3 (l : List Nat) (w : World) (hl : ∀ c ∈ l, c < 128) (hs : l.length ≤ 140737488355328) :
  Ct 255 #[.string (Ad l)] (.string (Ad (l.map Fm))) w := by
 have hb : ∀ c ∈ l, c < 256 := fun c hc => Nat.lt_trans (hl c hc) (by omega)
 have h := Tryz.strings_ToLower_ascii (Ad l) w (by rw [Ak]; exact hs) (Ajh (by rw [Al hb]; exact hl))
 rw [Ag2 (by rw [Al hb]; exact hl), Al hb] at h
 exact h
theorem Afb {l : List Nat} (hl : ∀ c ∈ l, c < 128) : ∀ c ∈ l.map Fm, c < 256 := by
 intro c hc
 obtain ⟨d, hd, rfl⟩ := List.mem_map.1 hc
 have := hl d hd
 unfold Fm
 split <;> omega
theorem Aht (l : List Nat) (r : Nat) (w : World) (hr : r ≤ 36) (hl : ∀ c ∈ l, c < 128) (hs : l.length ≤ 140737488355328) :
  Ct 254 #[.string (Ad (l.map Fm)), .int .i64 r] (.tuple #[.string (Ad ((l.takeWhile (dgq r)).map Fm)), .string (Ad ((l.dropWhile (dgq r)).map Fm))]) w := by
 have h := Eb (Ad (l.map Fm)) r w hr (by rw [Ak, List.length_map]; omega)
 rw [Al (Afb hl), Adt, Ag7] at h
 exact h
theorem Agu (r : Nat) (l : List Nat) : F6 r (l.map Fm) = F6 r l := by unfold F6; rw [Yz]
theorem Agc (r : Nat) (l : List Nat) : ∀ c ∈ l.takeWhile (dgq r), dgt c < r := by
 induction l with
 | nil => intro c hc; simp at hc
 | cons d t ih =>
  intro c hc
  rw [List.takeWhile_cons] at hc
  cases hd : dgq r d
  ·rw [hd] at hc; simp at hc
  ·rw [hd] at hc
   simp only [if_true] at hc
   rcases List.mem_cons.1 hc with rfl | h
   ·exact of_decide_eq_true hd
   ·exact ih c h
theorem drop_nil (p : Nat → Bool) : ∀ l : List Nat, l.dropWhile p = [] ↔ l.all p = true
 | [] => by simp
 | c :: l => by
  by_cases h : p c = true
  ·rw [List.dropWhile_cons_of_pos h, List.all_cons, h, Bool.true_and]
   exact drop_nil p l
  ·rw [List.dropWhile_cons_of_neg h, List.all_cons]
   simp [h]
theorem Va (p : Nat → Bool) : ∀ l : List Nat, l.all p = true → l.takeWhile p = l
 | [], _ => rfl
 | c :: l, h => by
  rw [List.all_cons, Bool.and_eq_true] at h
  rw [List.takeWhile_cons_of_pos h.1, Va p l h.2]
theorem Xu : dgq 16 = Bh := rfl
theorem Ahl (s u : ByteArray) (w : World) (C1 : Hid (∀ W, Cq 253 #[.string s] (.tuple #[.string u, .bool false]) W)) :
  Ct 198 #[.string s] (.tuple #[.float .f64 0, .bool false]) w := by
 go_enter Tryz.func198, Tryz.ntmps198
 go_wp2_with fail
 refine Sm (C1.out _) ?_
 go_wp2
 go_ret2
 exact ⟨rfl, Below.refl _ _⟩
theorem Tz (s u v f q : ByteArray) (w : World) (C1 : Hid (∀ W, Cq 253 #[.string s] (.tuple #[.string u, .bool true]) W))
  (C2 : Hid (∀ W, Ct 255 #[.string u] (.string v) W))
  (C3 : Hid (∀ W, Ct 254 #[.string v, .int .i64 16] (.tuple #[.string f, .string q]) W))
  (t : f.toList.isEmpty = true ∨ (f.toList.isEmpty = false ∧ q.toList.isEmpty = false)) :
  Ct 198 #[.string s] (.tuple #[.float .f64 0, .bool false]) w := by
 rcases t with t1 | ⟨t1, t2⟩
 all_goals
  go_enter Tryz.func198, Tryz.ntmps198
  go_wp2_with fail
  refine Sm (C1.out _) ?_
  go_wp2_with fail
  refine Bm (C2.out _) fun w1 b1 => ?_
  go_wp2_with fail
  refine Bm (C3.out _) fun w2 b2 => ?_
  have B2 := Lh (Aa b1 b2)
  clear b1 b2
  go_wp2
  go_ret2
  exact ⟨rfl, B2.out⟩
theorem Ag5 (s u v f q : ByteArray) (F : Nat) (w : World) (C1 : Hid (∀ W, Cq 253 #[.string s] (.tuple #[.string u, .bool true]) W))
  (C2 : Hid (∀ W, Ct 255 #[.string u] (.string v) W))
  (C3 : Hid (∀ W, Ct 254 #[.string v, .int .i64 16] (.tuple #[.string f, .string q]) W))
  (C4 : Hid (∀ W, Ct 256 #[.string f, .int .i64 16] (.float .f64 F) W))
  (t1 : f.toList.isEmpty = false) (t2 : q.toList.isEmpty = true) :
  Ct 198 #[.string s] (.tuple #[.float .f64 F, .bool true]) w := by
 go_enter Tryz.func198, Tryz.ntmps198
 go_wp2_with fail
 refine Sm (C1.out _) ?_
 go_wp2_with fail
 refine Bm (C2.out _) fun w1 b1 => ?_
 go_wp2_with fail
 refine Bm (C3.out _) fun w2 b2 => ?_
 have B2 := Lh (Aa b1 b2)
 clear b1 b2
 go_wp2_with fail
 refine Bm (C4.out _) fun w3 b3 => ?_
 have B3 := Lh (Aa B2.out b3)
 clear b3
 go_wp2
 go_ret2
 exact ⟨rfl, B3.out⟩


end
section
theorem Kw (l : List Nat) (w : World) (hl : ∀ c ∈ l, c < 128) (hs : l.length ≤ 140737488355328) :
  Ct 198 #[.string (Ad l)] (.tuple #[.float .f64 (if hxB l = true then F6 16 (l.drop 2) else 0 : Nat), .bool (hxB l)]) w := by
 have hb : ∀ c ∈ l, c < 256 := fun c hc => Nat.lt_trans (hl c hc) (by omega)
 have C1 : ∀ W, Cq 253 #[.string (Ad l)] (.tuple #[.string (Ad (if hxA l = true then l.drop 2 else l)), .bool (hxA l)]) W := by
  intro W
  have := U0 (Ad l) W
  rw [Al hb] at this
  exact this
 obtain ⟨u, hu⟩ : ∃ u, l.drop 2 = u := ⟨_, rfl⟩
 have hul : ∀ c ∈ u, c < 128 := fun c hc => hl c (by rw [← hu] at hc; exact List.mem_of_mem_drop hc)
 have hus : u.length ≤ 140737488355328 := by rw [← hu, List.length_drop]; omega
 have hx : hxB l = (hxA l && !u.isEmpty && u.all Bh) := by unfold hxB; rw [hu]
 rw [hu]
 rw [hu] at C1
 cases ha : hxA l
 ·rw [ha] at C1 hx
  rw [hx, Bool.false_and, Bool.false_and, if_neg (by simp)]
  exact Ahl _ _ w (Lh C1)
 ·rw [ha, if_pos rfl] at C1
  rw [ha, Bool.true_and] at hx
  have C2 := Lh (fun W => Ab3 u W hul hus)
  have C3 := Lh (fun W => Aht u 16 W (by omega) hul hus)
  have ne : ∀ R : List Nat, R ≠ [] → (Ad R).toList.isEmpty = false := fun R hR => (Kt hR).2
  have em : (Ad []).toList.isEmpty = true := by rw [Lib.toList_data]; rfl
  by_cases h1 : u.takeWhile (dgq 16) = []
  ·have hn : hxB l = false := by
    rw [hx]
    cases u with
    | nil => rfl
    | cons c t =>
     have : dgq 16 c = false := by
      cases h : dgq 16 c
      ·rfl
      ·rw [List.takeWhile_cons_of_pos h] at h1; cases h1
     show (true && (Bh c && t.all Bh)) = false
     rw [← Xu, this]
     rfl
   rw [hn, if_neg (by simp)]
   exact Tz _ _ _ _ _ w (Lh C1) C2 C3 (Or.inl (by rw [h1]; exact em))
  ·by_cases h2 : u.dropWhile (dgq 16) = []
   ·have h3 := (drop_nil _ _).1 h2
    have h4 := Va _ _ h3
    have hu0 : u ≠ [] := fun e => h1 (by rw [e]; rfl)
    have hn : hxB l = true := by
     rw [hx, ← Xu, h3, Bool.and_true]
     cases u with
     | nil => exact absurd rfl hu0
     | cons => rfl
    rw [hn, if_pos rfl]
    rw [h4, h2] at C3
    have hd : ∀ c ∈ u, dgt c < 16 := by
     have := Agc 16 u
     rw [h4] at this
     exact this
    have C4 : ∀ W, Ct 256 #[.string (Ad (u.map Fm)), .int .i64 16] (.float .f64 (F6 16 u)) W := by
     intro W
     have := V5 (u.map Fm) 16 W (by omega) (by omega) (by simpa using hu0) (by
      intro c hc
      obtain ⟨d, hd2, rfl⟩ := List.mem_map.1 hc
      rw [Rs]
      exact hd d hd2) (Afb hul) (by rw [List.length_map]; omega)
     rw [Agu] at this
     exact this
    exact Ag5 _ _ _ _ _ _ w (Lh C1) C2 C3 (Lh C4) (ne _ (by simpa using hu0)) em
   ·have hn : hxB l = false := by
     rw [hx, ← Xu]
     cases h3 : u.all (dgq 16)
     ·rw [Bool.and_false]
     ·exact absurd ((drop_nil _ _).2 h3) h2
    rw [hn, if_neg (by simp)]
    exact Tz _ _ _ _ _ w (Lh C1) C2 C3 (Or.inr ⟨ne _ (by simpa using h1), ne _ (by simpa using h2)⟩)

end
section
theorem Abc {B : Nat} {l : List UInt8} {w w' : World} (h : Bld B l w) (hb : Below w.heap.size w w') : Bld B l w' := by
 have hg : w.grownBy w' none := ⟨hb.os, hb.tape, hb.output, hb.size, fun k hk _ => hb.block k hk⟩
 have key : ∀ p, Lib.BuilderAtF 85 5 B B p (Lib.byteCells l) w → Lib.BuilderAtF 85 5 B B p (Lib.byteCells l) w' := by
  intro p hA
  have hlt := Lib.BuilderAtF.lt hA
  obtain ⟨hB, v, hbk, hown, hne⟩ := hA
  exact ⟨hB, v, by rw [hb.block B hlt]; exact hbk, hown.kept hg (by cases v.ownBlock <;> simp), hne⟩
 rcases h with h | h
 ·exact .inl (key _ h)
 ·exact .inr (key _ h)
def nr0 (u : Nat) : Nat := if 127 < u then 0 else u
theorem Ai8 (u : Nat) : nr0 u < 128 := by unfold nr0; split <;> omega
theorem Mz {w w' : World} {R B n : Nat} {f : Nat → Value} (h : w.rowIs R 52 n f) (ho : Lib.OthersKept 5 (some B) w w') (hR : R ≠ B) : w'.rowIs R 52 n f := by
 obtain ⟨c, hb, hn, hc⟩ := h
 refine ⟨c, ho R _ hb (by simpa using hR) (fun c' fz e => ?_), hn, hc⟩
 injection e with _ e2 _
 exact absurd e2 (by decide)
theorem Oj (l : List UInt8) (u : Nat) (hu : u < 256) : Lib.byteCells l ++ [Value.int .u8 (u : Int)] = Lib.byteCells (l ++ [UInt8.ofNat u]) := by
 rw [Lib.byteCells_append]
 simp [Lib.byteCells]
 omega
theorem U8 (s : ByteArray) (w : World) (hs : s.size ≤ 140737488355328) :
  Ct 197 #[.string s] (.string (Ad (nrw 0 (us s)))) w := by
 have hl := Ap s
 have hs63 : s.size ≤ maxLen := by unfold maxLen; omega
 have hm : ((ln s : Nat) : Int) ≤ 70368744177664 := by omega
 have H63 := Lh hs63
 have C1 := Lh (fun W => Cr s W H63.out)
 have C2 := Lh (fun W => Aa1 s W hs)
 have HS := Lh (show ln s ≤ 70368744177664 by omega)
 have hg : Cp 83 #[.pointer (some ⟨w.heap.size, 0, none⟩), .int .i64 (ln s : Nat)] (w.alloc (.cells #[.pointer none, .slice none 0 0] 85)) fun e w' => e = .returned (.tuple #[]) ∧ (Lib.BuilderAt 85 5 w.heap.size w.heap.size (.pointer (some ⟨w.heap.size, 0, none⟩)) [] w' ∧ Below w.heap.size (w.alloc (.cells #[.pointer none, .slice none 0 0] 85)) w') :=
  Tryz.Builder_Grow_fresh w.heap.size w.heap.size (ln s) _ (Nat.le_refl _) (Hz w _) (by simp) (by omega)
 have HG := Lh hg
 clear hl hs hs63 hg
 go_enter Tryz.func197, Tryz.ntmps197
 go_wp2_with fail
 refine Sm (C1.out _) ?_
 go_wp2_with fail
 refine HG.out.mono ?_
 rintro e w1 ⟨rfl, hb1, bl1⟩
 have hbl : Below w.heap.size w w1 := ((Below.refl w.heap.size w).alloc (Nat.le_refl _) _).trans bl1
 have I1 := Lh (show Bld w.heap.size [] w1 from Lib.IsBuilderF.of (.inr hb1))
 have B1 := Lh hbl
 clear hb1 bl1 hbl
 go_wp2_with fail
 refine (C2.out _).mono ?_
 rintro e w2 ⟨rfl, hr2, b2⟩
 have R2 := Lh hr2
 have hlt1 := Rn I1.out
 have I2 := Lh (Abc I1.out b2)
 have B2 := Lh (Aa B1.out b2)
 have HR := Lh (show w1.heap.size ≠ w.heap.size by omega)
 obtain ⟨R, hR⟩ : ∃ R, w1.heap.size = R := ⟨_, rfl⟩
 rw [hR] at R2 HR ⊢
 clear hr2 b2 hlt1 hR
 go_wp2
 go_loopw [12] (fun i wr => ∃ k : Nat, i = .int .i64 k ∧ k ≤ ln s ∧ Hid (Bld w.heap.size ((((us s).take k).map nr0).map UInt8.ofNat) wr) ∧ Hid (wr.rowIs R 52 (ln s) (fun j => .int .u16 (un s j : Nat))) ∧ Hid (Below w.heap.size w wr)) (fun i _ => ln s - (intOf i).toNat)
 case atStart => exact ⟨0, rfl, Nat.zero_le _, I2, R2, B2⟩
 case round =>
  obtain ⟨k, rfl, hk, I3, R3, B3⟩ := hrel
  by_cases hlt : k < ln s
  ·have hcell : wr.cell? ⟨R, k, none⟩ = some (.int .u16 (un s k : Nat)) := R3.out.cell hlt
   have hul := Pw s k
   have HST := Lh (Jf s k hlt)
   obtain ⟨u, hu⟩ : ∃ u, un s k = u := ⟨_, rfl⟩
   rw [hu] at hcell hul HST
   have hc1 := Ai8 u
   have hlen : (Lib.byteCells ((((us s).take k).map nr0).map UInt8.ofNat)).length + 1 ≤ 140737488355328 := by
    rw [Lib.byteCells_length, List.length_map, List.length_map, List.length_take]
    have := HS.out
    omega
   have C4 := Lh (fun c : Int => Tryz.Builder_WriteByte_k w.heap.size w.heap.size _ c wr I3.out hlen B3.out.size)
   have KEY := Lh (show ∀ w', Lib.BuilderAtF 85 5 w.heap.size w.heap.size (.pointer (some ⟨w.heap.size, 0, none⟩)) (Lib.byteCells ((((us s).take k).map nr0).map UInt8.ofNat) ++ [.int .u8 (nr0 u : Nat)]) w' → Bld w.heap.size ((((us s).take (k + 1)).map nr0).map UInt8.ofNat) w' from fun w' h => by
    rw [Oj _ _ (by omega)] at h
    rw [HST.out, List.map_append, List.map_append]
    exact Or.inr h)
   have a1 : (0 : Int) ≤ (k : Int) := by omega
   have a2 : (k : Int) < (ln s : Int) := by omega
   clear hlen
   by_cases hb : 127 < u
   ·have e0 : nr0 u = 0 := if_pos hb
    rw [e0] at KEY
    have t1 : decide ((127 : Int) < (u : Int)) = true := decide_eq_true (by omega)
    clear hu hul hc1 hb e0
    go_wp2_with fail
    refine (C4.out 0).mono ?_
    rintro e w3 ⟨rfl, hI, hb3, ho3⟩
    have I4 := Lh (KEY.out _ hI)
    have R4 := Lh (Mz R3.out ho3 HR.out)
    have B4 := Lh (B3.out.trans hb3)
    clear hI hb3 ho3
    go_wp2
    exact ⟨⟨k + 1, by go_num, by omega, I4, R4, B4⟩, by simp [intOf]; omega⟩
   ·have e0 : nr0 u = u := if_neg hb
    rw [e0] at KEY
    have t1 : decide ((127 : Int) < (u : Int)) = false := decide_eq_false (by omega)
    have k1 : IntKind.u8.wrap (u : Int) = (u : Int) := IntWalk.u8_in _ (by omega)
    clear hu hul hc1 hb e0
    go_wp2_with fail
    refine (C4.out _).mono ?_
    rintro e w3 ⟨rfl, hI, hb3, ho3⟩
    have I4 := Lh (KEY.out _ hI)
    have R4 := Lh (Mz R3.out ho3 HR.out)
    have B4 := Lh (B3.out.trans hb3)
    clear hI hb3 ho3
    go_wp2
    exact ⟨⟨k + 1, by go_num, by omega, I4, R4, B4⟩, by simp [intOf]; omega⟩
  ·obtain ⟨T, hT⟩ : ∃ T, (((us s).take k).map nr0).map UInt8.ofNat = T := ⟨_, rfl⟩
   have I5 := I3.out
   rw [hT] at I5
   have hS := Lh (Tryz.Builder_String_any_k w.heap.size w.heap.size T wr I5 B3.out.size)
   have HZ := Lh (show (⟨T.toArray⟩ : ByteArray) = Ad (nrw 0 (us s)) from by
    rw [← hT, show (us s).take k = us s by rw [show k = ln s by omega]; exact Lr s]
    rfl)
   clear hT I5 I3
   go_wp2_with (go_at_call 61; refine hS.out.mono ?_; rintro e w2 ⟨rfl, _, hb2, _⟩)
   go_ret
   exact ⟨by rw [← HZ.out]; rfl, B3.out.trans hb2⟩


end
section
theorem Z8 (z : Nat) (l : List Nat) : (nrw z l).length = l.length := by unfold nrw; rw [List.length_map]
theorem Afy {s : ByteArray} (h : s.size ≤ 140737488355328) : (nrw 0 (us s)).length ≤ 140737488355328 := by
 rw [Z8, Ab]
 have := Ap s
 omega
theorem Yh : (Ad []).toList.isEmpty = true := by rw [Lib.toList_data]; rfl

end
section
def V4 (l : List Nat) : Bool := l.head? == some 48 && (l.tail.head?.map Ah == some true)
theorem K7 (l : List Nat) : V4 l = true ↔ 1 < (dW l).length ∧ (dW l).head? = some 48 := by
 unfold V4 dW Af
 cases l with
 | nil => simp
 | cons c t =>
  by_cases hc : c = 48
  ·subst hc
   rw [List.takeWhile_cons_of_pos (by decide)]
   cases t with
   | nil => simp
   | cons d q =>
    cases hd : Ah d
    ·rw [List.takeWhile_cons_of_neg (by rw [hd]; simp)]; simp [hd]
    ·rw [List.takeWhile_cons_of_pos hd]; simp [hd]
  ·constructor
   ·intro h; simp [hc] at h
   ·rintro ⟨_, h⟩
    by_cases hg : Ah c = true
    ·rw [List.takeWhile_cons_of_pos hg] at h; simp at h; exact absurd h hc
    ·rw [List.takeWhile_cons_of_neg hg] at h; simp at h
theorem Aje (l : List Nat) : Hd l = (hxB l || (dB l && (dR l).isEmpty && !V4 l)) := rfl
theorem Ri (s l : ByteArray) (H : Nat) (w : World)
  (C2 : Hid (∀ W, Ct 197 #[.string s] (.string l) W))
  (C3 : Hid (∀ W, Ct 198 #[.string l] (.tuple #[.float .f64 H, .bool true]) W)) :
  Ct 108 #[.string s] (.tuple #[.float .f64 H, .bool true]) w := by
 go_enter Tryz.func108, Tryz.ntmps108
 go_wp2_with fail
 refine Bm (C2.out _) fun w1 b1 => ?_
 have B1 := Lh b1
 clear b1
 go_wp2_with fail
 refine Bm (C3.out _) fun w2 b2 => ?_
 have B2 := Lh (Aa B1.out b2)
 clear b2
 go_wp2
 go_ret2
 exact ⟨rfl, B2.out⟩
theorem Oz (s l : ByteArray) (w : World)
  (C2 : Hid (∀ W, Ct 197 #[.string s] (.string l) W))
  (C3 : Hid (∀ W, Ct 198 #[.string l] (.tuple #[.float .f64 0, .bool false]) W))
  (C4 : Hid (∀ W, Ct 199 #[.string l] (.tuple #[.agg #[.string ⟨#[]⟩, .string ⟨#[]⟩, .int .i64 0], .string ⟨#[]⟩, .bool false]) W)) :
  Ct 108 #[.string s] (.tuple #[.float .f64 0, .bool false]) w := by
 go_enter Tryz.func108, Tryz.ntmps108
 go_wp2_with fail
 refine Bm (C2.out _) fun w1 b1 => ?_
 have B1 := Lh b1
 clear b1
 go_wp2_with fail
 refine Bm (C3.out _) fun w2 b2 => ?_
 have B2 := Lh (Aa B1.out b2)
 clear b2
 go_wp2_with fail
 refine Bm (C4.out _) fun w3 b3 => ?_
 have B3 := Lh (Ey (.cells #[.string ⟨#[]⟩, .string ⟨#[]⟩, .int .i64 0] 146) (Aa B2.out b3))
 clear b3
 go_wp2
 go_ret2
 exact ⟨rfl, B3.out⟩
theorem Yt (s l p q r : ByteArray) (X : Int) (w : World)
  (C2 : Hid (∀ W, Ct 197 #[.string s] (.string l) W))
  (C3 : Hid (∀ W, Ct 198 #[.string l] (.tuple #[.float .f64 0, .bool false]) W))
  (C4 : Hid (∀ W, Ct 199 #[.string l] (.tuple #[.agg #[.string p, .string q, .int .i64 X], .string r, .bool true]) W))
  (t1 : r.toList.isEmpty = false) :
  Ct 108 #[.string s] (.tuple #[.float .f64 0, .bool false]) w := by
 go_enter Tryz.func108, Tryz.ntmps108
 go_wp2_with fail
 refine Bm (C2.out _) fun w1 b1 => ?_
 have B1 := Lh b1
 clear b1
 go_wp2_with fail
 refine Bm (C3.out _) fun w2 b2 => ?_
 have B2 := Lh (Aa B1.out b2)
 clear b2
 go_wp2_with fail
 refine Bm (C4.out _) fun w3 b3 => ?_
 have B3 := Lh (Ey (.cells #[.string p, .string q, .int .i64 X] 146) (Aa B2.out b3))
 clear b3
 go_wp2
 go_ret2
 exact ⟨rfl, B3.out⟩
theorem Xg (s l p q r : ByteArray) (X : Int) (w : World)
  (C2 : Hid (∀ W, Ct 197 #[.string s] (.string l) W))
  (C3 : Hid (∀ W, Ct 198 #[.string l] (.tuple #[.float .f64 0, .bool false]) W))
  (C4 : Hid (∀ W, Ct 199 #[.string l] (.tuple #[.agg #[.string p, .string q, .int .i64 X], .string r, .bool true]) W))
  (t1 : r.toList.isEmpty = true) (t2 : decide (1 < (p.size : Int)) = true) (h0 : 0 < p.size) (t3 : (((p[0]'h0).toNat : Int) == 48) = true) :
  Ct 108 #[.string s] (.tuple #[.float .f64 0, .bool false]) w := by
 go_enter Tryz.func108, Tryz.ntmps108
 go_wp2_with fail
 refine Bm (C2.out _) fun w1 b1 => ?_
 have B1 := Lh b1
 clear b1
 go_wp2_with fail
 refine Bm (C3.out _) fun w2 b2 => ?_
 have B2 := Lh (Aa B1.out b2)
 clear b2
 go_wp2_with fail
 refine Bm (C4.out _) fun w3 b3 => ?_
 have B3 := Lh (Ey (.cells #[.string p, .string q, .int .i64 X] 146) (Aa B2.out b3))
 clear b3
 go_wp2
 go_ret2
 exact ⟨rfl, B3.out⟩
theorem Yn (s l p q r : ByteArray) (X : Int) (F : Nat) (w : World)
  (C2 : Hid (∀ W, Ct 197 #[.string s] (.string l) W))
  (C3 : Hid (∀ W, Ct 198 #[.string l] (.tuple #[.float .f64 0, .bool false]) W))
  (C4 : Hid (∀ W, Ct 199 #[.string l] (.tuple #[.agg #[.string p, .string q, .int .i64 X], .string r, .bool true]) W))
  (C5 : Hid (∀ W, Ct 200 #[.agg #[.string p, .string q, .int .i64 X]] (.float .f64 F) W))
  (t1 : r.toList.isEmpty = true) (t2 : decide (1 < (p.size : Int)) = false) :
  Ct 108 #[.string s] (.tuple #[.float .f64 F, .bool true]) w := by
 go_enter Tryz.func108, Tryz.ntmps108
 go_wp2_with fail
 refine Bm (C2.out _) fun w1 b1 => ?_
 have B1 := Lh b1
 clear b1
 go_wp2_with fail
 refine Bm (C3.out _) fun w2 b2 => ?_
 have B2 := Lh (Aa B1.out b2)
 clear b2
 go_wp2_with fail
 refine Bm (C4.out _) fun w3 b3 => ?_
 have B3 := Lh (Ey (.cells #[.string p, .string q, .int .i64 X] 146) (Aa B2.out b3))
 clear b3
 go_wp2_with fail
 refine Bm (C5.out _) fun w4 b4 => ?_
 have B4 := Lh (Aa B3.out b4)
 clear b4
 go_wp2
 go_ret2
 exact ⟨rfl, B4.out⟩
theorem Xw (s l p q r : ByteArray) (X : Int) (F : Nat) (w : World)
  (C2 : Hid (∀ W, Ct 197 #[.string s] (.string l) W))
  (C3 : Hid (∀ W, Ct 198 #[.string l] (.tuple #[.float .f64 0, .bool false]) W))
  (C4 : Hid (∀ W, Ct 199 #[.string l] (.tuple #[.agg #[.string p, .string q, .int .i64 X], .string r, .bool true]) W))
  (C5 : Hid (∀ W, Ct 200 #[.agg #[.string p, .string q, .int .i64 X]] (.float .f64 F) W))
  (t1 : r.toList.isEmpty = true) (t2 : decide (1 < (p.size : Int)) = true) (h0 : 0 < p.size) (t3 : (((p[0]'h0).toNat : Int) == 48) = false) :
  Ct 108 #[.string s] (.tuple #[.float .f64 F, .bool true]) w := by
 go_enter Tryz.func108, Tryz.ntmps108
 go_wp2_with fail
 refine Bm (C2.out _) fun w1 b1 => ?_
 have B1 := Lh b1
 clear b1
 go_wp2_with fail
 refine Bm (C3.out _) fun w2 b2 => ?_
 have B2 := Lh (Aa B1.out b2)
 clear b2
 go_wp2_with fail
 refine Bm (C4.out _) fun w3 b3 => ?_
 have B3 := Lh (Ey (.cells #[.string p, .string q, .int .i64 X] 146) (Aa B2.out b3))
 clear b3
 go_wp2_with fail
 refine Bm (C5.out _) fun w4 b4 => ?_
 have B4 := Lh (Aa B3.out b4)
 clear b4
 go_wp2
 go_ret2
 exact ⟨rfl, B4.out⟩
theorem Ahb {l : List Nat} (hl : ∀ c ∈ l, c < 256) (h : 0 < (Ad l).size) : l.head? = some ((Ad l)[0]'h).toNat := by
 have h1 := Cg (Ad l) 0 h
 rw [Al hl] at h1
 rw [List.head?_eq_getElem?]
 exact h1
theorem Sf (s : ByteArray) (w : World) (hs : s.size ≤ 140737488355328) :
  Ct 108 #[.string s] (.tuple #[.float .f64 (Jv (nrw 0 (us s))), .bool (Hd (nrw 0 (us s)))]) w := by
 have hl := Af1 (z := 0) (by omega) (us s)
 have hln := Afy (s := s) hs
 obtain ⟨l, hll⟩ : ∃ l, nrw 0 (us s) = l := ⟨_, rfl⟩
 have C2 := fun W => U8 s W hs
 rw [hll] at C2 hl hln ⊢
 have hb : ∀ c ∈ l, c < 256 := fun c hc => Nat.lt_trans (hl c hc) (by omega)
 have C3 := fun W => Kw l W hl hln
 unfold Jv
 rw [Aje]
 cases hx : hxB l
 ·rw [hx] at C3
  simp only [Bool.false_eq_true, if_false] at C3
  simp only [Bool.false_eq_true, if_false, Bool.false_or]
  cases hd : dB l
  ·simp only [Bool.false_and, Bool.false_eq_true, if_false]
   exact Oz _ _ w (Lh C2) (Lh C3) (Lh (fun W => Oi (Ad l) W (by rw [Ak]; omega) (by rw [Al hb]; exact hd)))
  ·have C4 : ∀ W, Ct 199 #[.string (Ad l)] (.tuple #[.agg #[.string (Ad (dW l)), .string (Ad (dF l)), .int .i64 (dX l)], .string (Ad (dR l)), .bool true]) W := by
    intro W
    have := Lx (Ad l) W (by rw [Ak]; omega) (by rw [Al hb]; exact hd)
    rw [Al hb] at this
    exact this
   have C5 := fun W => Wz l W (by omega)
   have hWb : ∀ c ∈ dW l, c < 256 := fun c hc => hb c (Zi c hc)
   have hsz := Ak (dW l)
   rw [Bool.true_and]
   by_cases hr : dR l = []
   ·rw [hr, List.isEmpty_nil, Bool.true_and]
    rw [hr] at C4
    by_cases h1 : 1 < (dW l).length
    ·have h0 : 0 < (Ad (dW l)).size := by omega
     have hh := Ahb hWb h0
     cases ho : V4 l
     ·simp only [Bool.not_false, if_true]
      refine Xw _ _ _ _ _ _ _ w (Lh C2) (Lh C3) (Lh C4) (Lh C5) Yh (decide_eq_true (by omega)) h0 ?_
      rw [beq_eq_false_iff_ne]
      intro e
      have : V4 l = true := (K7 l).2 ⟨h1, by rw [hh]; congr 1; omega⟩
      rw [ho] at this
      cases this
     ·simp only [Bool.not_true, Bool.false_eq_true, if_false]
      have h2 := ((K7 l).1 ho).2
      refine Xg _ _ _ _ _ _ w (Lh C2) (Lh C3) (Lh C4) Yh (decide_eq_true (by omega)) h0 ?_
      rw [hh] at h2
      have := Option.some.inj h2
      rw [beq_iff_eq]
      omega
    ·have ho : V4 l = false := by
      cases h : V4 l
      ·rfl
      ·exact absurd ((K7 l).1 h).1 h1
     rw [ho]
     simp only [Bool.not_false, if_true]
     exact Yn _ _ _ _ _ _ _ w (Lh C2) (Lh C3) (Lh C4) (Lh C5) Yh (decide_eq_false (by omega))
   ·have he : (dR l).isEmpty = false := by
     cases h : dR l with
     | nil => exact absurd h hr
     | cons => rfl
    rw [he]
    simp only [Bool.false_and, Bool.false_eq_true, if_false]
    exact Yt _ _ _ _ _ _ w (Lh C2) (Lh C3) (Lh C4) (Kt hr).2
 ·rw [hx] at C3
  simp only [if_true] at C3
  simp only [if_true, Bool.true_or]
  exact Ri _ _ _ w (Lh C2) (Lh C3)


end
section
theorem Zm : ∀ (i : Nat) (l : List UInt8), uL (l.drop (2 * i)) = (uL l).drop i
 | 0, l => rfl
 | i + 1, [] => by simp [uL]
 | i + 1, [a] => by
  have : 2 * (i + 1) = 2 * i + 1 + 1 := by omega
  rw [this, List.drop_succ_cons, List.drop_nil]
  simp [uL]
 | i + 1, a :: b :: l => by
  have : 2 * (i + 1) = 2 * i + 1 + 1 := by omega
  rw [this, List.drop_succ_cons, List.drop_succ_cons, Zm i l, uL, List.drop_succ_cons]
theorem Zz : ∀ (i : Nat) (l : List UInt8), uL (l.take (2 * i)) = (uL l).take i
 | 0, l => by simp [uL]
 | i + 1, [] => by simp [uL]
 | i + 1, [a] => by
  have : 2 * (i + 1) = 2 * i + 1 + 1 := by omega
  rw [this, List.take_succ_cons, List.take_nil]
  simp [uL]
 | i + 1, a :: b :: l => by
  have : 2 * (i + 1) = 2 * i + 1 + 1 := by omega
  rw [this, List.take_succ_cons, List.take_succ_cons, uL, Zz i l, uL, List.take_succ_cons]
theorem Ah5 (s : ByteArray) (a b : Nat) : us (s.extract (2 * a) (2 * b)) = ((us s).drop a).take (b - a) := by
 unfold us
 rw [Lib.extract_data, show 2 * b - 2 * a = 2 * (b - a) by omega, Zz, Zm]
theorem Ag6 : us { data := #[] } = [] := rfl
theorem Xq (s : ByteArray) (a b : Nat) (hb : b ≤ ln s) : us (slS s a b) = ((us s).drop a).take (b - a) := by
 rcases Nat.lt_or_ge a b with h | h
 ·rw [Zh s a b (by omega) (by omega) (by omega), Int.toNat_natCast, Int.toNat_natCast, Ah5]
 ·have : slS s a b = { data := #[] } := by
   unfold slS
   rw [if_neg (by omega)]
  rw [this, Ag6, show b - a = 0 by omega, List.take_zero]
end
section
theorem Zx {l : List Nat} (h : ∀ u ∈ l, u < 65536) : us ⟨(bL l).toArray⟩ = l := by
 unfold us
 exact Ait l h
theorem Aha {x : ByteArray} (h : x.size = 2 * ln x) : ⟨(bL (us x)).toArray⟩ = x := by
 apply ByteArray.ext
 apply Array.toList_inj.1
 show bL (us x) = x.data.toList
 unfold us
 rw [Aiy, List.take_of_length_le]
 have h1 : x.data.toList.length = x.size := by rw [Lib.size_eq]
 unfold ln at h
 omega
theorem Qn (s : ByteArray) (k n : Nat) (h : k + n ≤ ln s) : slS s (k : Int) ((k + n : Nat) : Int) = ⟨(bL (((us s).drop k).take n)).toArray⟩ := by
 have h1 := Xq s k (k + n) h
 rw [Nat.add_sub_cancel_left] at h1
 rw [← h1]
 refine (Aha ?_).symm
 have h2 := congrArg List.length h1
 rw [Ab] at h2
 have h3 := Ap s
 by_cases hn : n = 0
 ·subst hn
  have : slS s (k : Int) ((k + 0 : Nat) : Int) = ⟨#[]⟩ := by
   unfold slS
   rw [if_neg (by omega)]
  rw [this]
  rfl
 ·rw [Zh s k ((k + n : Nat) : Int) (by omega) (by omega) (by omega)]
  have h4 : (s.extract (2 * (k : Int).toNat) (2 * ((k + n : Nat) : Int).toNat)).size = 2 * n := by
   rw [ByteArray.size_extract]
   omega
  unfold ln
  rw [h4]
  omega
theorem Yx {z : Nat} {l : List Nat} (h : ∀ c ∈ l, c < 128) : nrw z l = l := by
 unfold nrw
 have : ∀ c ∈ l, (if 127 < c then z else c) = c := fun c hc => if_neg (by have := h c hc; omega)
 rw [List.map_congr_left this]
 simp
theorem Adv {c : Nat} (h : Ah c = true) : c < 128 := by
 unfold Ah at h
 simp at h
 omega
theorem Ai6 {c : Nat} (h : Bh c = true) : c < 128 := by
 unfold Bh at h
 have h : dgt c < 16 := by simpa using h
 unfold dgt at h
 repeat (first | omega | split at h)
theorem Ae4 {f : Nat → Bool} (hf : ∀ c, f c = true → c < 128) : ∀ (l : List Nat), ∀ c ∈ l.takeWhile f, c < 128
 | [], c, hc => by simp at hc
 | a :: r, c, hc => by
  rw [List.takeWhile_cons] at hc
  cases hfa : f a with
  | false => rw [hfa] at hc; simp at hc
  | true =>
   rw [hfa] at hc
   simp at hc
   rcases hc with rfl | hc
   ·exact hf _ hfa
   ·exact Ae4 hf r c hc
def Asc (l r : List Nat) : Prop := ∃ X, l = X ++ r ∧ ∀ c ∈ X, c < 128
theorem Asc.refl (l : List Nat) : Asc l l := ⟨[], rfl, by simp⟩
theorem Asc.trans {l m r : List Nat} (h : Asc l m) (g : Asc m r) : Asc l r := by
 obtain ⟨X, rfl, hX⟩ := h
 obtain ⟨Y, rfl, hY⟩ := g
 refine ⟨X ++ Y, by simp, fun c hc => ?_⟩
 rcases List.mem_append.1 hc with h | h
 ·exact hX c h
 ·exact hY c h
theorem Asc.cons {c : Nat} (hc : c < 128) (r : List Nat) : Asc (c :: r) r := ⟨[c], rfl, by simpa using hc⟩
theorem Asc.tail {l : List Nat} {c : Nat} (h : l.head? = some c) (hc : c < 128) : Asc l l.tail := by
 cases l with
 | nil => cases h
 | cons a r =>
  obtain rfl : a = c := by simpa using h
  exact Asc.cons hc r
theorem Asc.drop {f : Nat → Bool} (hf : ∀ c, f c = true → c < 128) (l : List Nat) : Asc l (l.dropWhile f) := ⟨l.takeWhile f, List.takeWhile_append_dropWhile.symm, Ae4 hf l⟩
theorem Asc.take {l r : List Nat} (h : Asc l r) : ∀ c ∈ l.take (l.length - r.length), c < 128 := by
 obtain ⟨X, rfl, hX⟩ := h
 rw [List.length_append, Nat.add_sub_cancel, List.take_left]
 exact hX
theorem Asc.aft (l : List Nat) : Asc l (Ai l) := Asc.drop (fun _ h => Adv h) l
theorem Asc.dT (l : List Nat) : Asc l (dT l) := by
 unfold Go.Proofs.YtmimeejjaneedaaGreatDoor.dT
 split
 ·rename_i h
  exact ((Asc.aft l).trans (Asc.tail (c := 46) (by unfold Fz at h; simpa using h) (by omega))).trans (Asc.aft _)
 ·exact Asc.aft l
theorem Asc.unsg (l : List Nat) : Asc l (unsg l) := by
 unfold Go.Proofs.YtmimeejjaneedaaGreatDoor.unsg
 split
 ·rename_i h
  rcases h with h | h
  ·exact Asc.tail h (by omega)
  ·exact Asc.tail h (by omega)
 ·exact Asc.refl l
theorem Asc.expR {l : List Nat} (h : l.head? = some 101 ∨ l.head? = some 69) : Asc l (expR l) := by
 unfold Go.Proofs.YtmimeejjaneedaaGreatDoor.expR
 refine Asc.trans ?_ ((Asc.unsg _).trans (Asc.aft _))
 rcases h with h | h
 ·exact Asc.tail h (by omega)
 ·exact Asc.tail h (by omega)
theorem Asc.hex {l : List Nat} (h : hxA l = true) : ∀ c ∈ l.take (2 + ((l.drop 2).takeWhile Bh).length), c < 128 := by
 match l, h with
 | [], h => cases h
 | [a], h => unfold hxA at h; simp at h
 | a :: b :: r, h =>
  unfold hxA at h
  simp at h
  have h2 : Asc (a :: b :: r) (r.dropWhile Bh) := ((Asc.cons (by omega) _).trans (Asc.cons (by omega) r)).trans (Asc.drop (fun _ h => Ai6 h) r)
  have h3 := h2.take
  have h4 := congrArg List.length (List.takeWhile_append_dropWhile (p := Bh) (l := r))
  rw [List.length_append] at h4
  simp only [List.length_cons] at h3
  rw [show r.length + 1 + 1 - (List.dropWhile Bh r).length = 2 + (r.takeWhile Bh).length by omega] at h3
  exact h3
theorem Ad5 (l : List Nat) : ∀ c ∈ l.take (Ds l), c < 128 := by
 unfold Ds
 split
 ·rename_i h
  exact Asc.hex h
 ·split
  ·rename_i h
   exact ((Asc.dT l).trans (Asc.expR h)).take
  ·exact (Asc.dT l).take
theorem Agt (l : List Nat) : ∀ c ∈ l.take (Dx l), c < 128 := by
 unfold Dx
 split
 ·rename_i h
  exact Asc.hex h
 ·unfold dR exR
  split
  ·rename_i h
   refine ((Asc.dT l).trans (Asc.expR ?_)).take
   unfold Dq at h
   rw [Bool.and_eq_true, Bool.or_eq_true] at h
   simpa using h.1
  ·exact (Asc.dT l).take
theorem Ahd (l : List Nat) : Ds l ≤ l.length := by
 unfold Ds
 split
 ·rename_i h
  match l, h with
  | [], h => cases h
  | [a], h => unfold hxA at h; simp at h
  | a :: b :: r, h =>
   have h4 := (List.takeWhile_sublist Bh (l := r)).length_le
   simp only [List.drop_succ_cons, List.drop_zero, List.length_cons]
   omega
 ·split <;> omega
def nmV (k : Nat) (l : List Nat) : Option Value := if Ja l (Ds l) = true then some (tkV 5 ⟨#[]⟩ (Jv (l.take (Ds l))) false false 0 (k + Ds l)) else none
theorem Aiz (u : Nat) (w : World) : Cq 90 #[.int .u16 u] (.bool (ptN u)) w := U9 u w

end
section
def resW : List (List UInt8) := [[98, 114, 101, 97, 107], [99, 97, 115, 101], [99, 97, 116, 99, 104], [99, 108, 97, 115, 115], [99, 111, 110, 115, 116], [99, 111, 110, 116, 105, 110, 117, 101], [100, 101, 98, 117, 103, 103, 101, 114], [100, 101, 102, 97, 117, 108, 116], [100, 101, 108, 101, 116, 101], [100, 111], [101, 108, 115, 101], [101, 110, 117, 109], [101, 120, 112, 111, 114, 116], [101, 120, 116, 101, 110, 100, 115], [102, 97, 108, 115, 101], [102, 105, 110, 97, 108, 108, 121], [102, 111, 114], [102, 117, 110, 99, 116, 105, 111, 110], [105, 102], [105, 109, 112, 108, 101, 109, 101, 110, 116, 115], [105, 109, 112, 111, 114, 116], [105, 110], [105, 110, 115, 116, 97, 110, 99, 101, 111, 102], [105, 110, 116, 101, 114, 102, 97, 99, 101], [108, 101, 116], [110, 101, 119], [110, 117, 108, 108], [112, 97, 99, 107, 97, 103, 101], [112, 114, 105, 118, 97, 116, 101], [112, 114, 111, 116, 101, 99, 116, 101, 100], [112, 117, 98, 108, 105, 99], [114, 101, 116, 117, 114, 110], [115, 116, 97, 116, 105, 99], [115, 117, 112, 101, 114], [115, 119, 105, 116, 99, 104], [116, 104, 105, 115], [116, 104, 114, 111, 119], [116, 114, 117, 101], [116, 114, 121], [116, 121, 112, 101, 111, 102], [118, 97, 114], [118, 111, 105, 100], [119, 104, 105, 108, 101], [119, 105, 116, 104], [121, 105, 101, 108, 100]]
theorem Ox (s : ByteArray) (w : World) (hs : s.size ≤ 17592186044416) :
  Ct 18 #[.string s] (.bool (resW.any fun x => (⟨(J2 s).toArray⟩ : ByteArray).toList == x)) w := by
 have C1 := Lh (fun W => Og s W hs)
 obtain ⟨E, hE⟩ : ∃ E : ByteArray, (⟨(J2 s).toArray⟩ : ByteArray) = E := ⟨_, rfl⟩
 rw [hE] at C1 ⊢
 clear hs hE
 go_enter Tryz.func18, Tryz.ntmps18
 go_wp2_with fail
 refine (C1.out _).mono ?_
 rintro e w' ⟨rfl, hb⟩
 go_wp2
 all_goals try go_ret
 all_goals first
  | exact ⟨by simp only [resW, List.any_cons, List.any_nil, *, Bool.true_or, Bool.or_true, Bool.or_false]; rfl, hb⟩
  | (exfalso; simp_all)


end
section
theorem Pq {p : Nat} (h : 128 ≤ p) : ∃ b r, Lib.encodeRune (p : Int) = b :: r ∧ 128 ≤ b.toNat := by
 have low : ∀ x : Int, 128 ≤ x → x < 256 → 128 ≤ (x.toNat.toUInt8).toNat := by
  intro x h1 h2
  obtain ⟨n, rfl⟩ := Int.eq_ofNat_of_zero_le (show 0 ≤ x by omega)
  rw [Int.toNat_natCast]
  show 128 ≤ (UInt8.ofNat n).toNat
  rw [UInt8.toNat_ofNat']
  omega
 unfold Lib.encodeRune
 rcases Nat.lt_or_ge p 2048 with h1 | h1
 ·rw [Lib.encodeRuneZ_two (by omega) (by omega)]
  exact ⟨_, _, rfl, low _ (by omega) (by omega)⟩
 ·by_cases h2 : (2048 ≤ (p : Int) ∧ (p : Int) < 55296) ∨ (57343 < (p : Int) ∧ (p : Int) ≤ 65535)
  ·rw [Lib.encodeRuneZ_three h2]
   exact ⟨_, _, rfl, low _ (by omega) (by omega)⟩
  ·by_cases h3 : 65536 ≤ (p : Int) ∧ (p : Int) ≤ 1114111
   ·rw [Lib.encodeRuneZ_four h3.1 h3.2]
    exact ⟨_, _, rfl, low _ (by omega) (by omega)⟩
   ·rw [Lib.encodeRuneZ_bad (by omega)]
    exact ⟨_, _, rfl, low _ (by omega) (by omega)⟩
theorem Ac2 {u : Nat} (h : u < 128) : Lib.encodeRune (u : Int) = [UInt8.ofNat u] := by
 unfold Lib.encodeRune
 rw [Lib.encodeRuneZ_one (by omega) (by omega)]
 show [(u : Int).toNat.toUInt8] = _
 rw [Int.toNat_natCast]
theorem Aho (s : ByteArray) {i : Nat} (h : i < ln s) : (us s).drop i = un s i :: (us s).drop (i + 1) := by
 have hl : i < (us s).length := by rw [Ab]; exact h
 rw [List.drop_eq_getElem_cons hl, Nr s i hl]
theorem Wv {a b : Nat} (ha : a < 256) (hb : b < 256) (h : UInt8.ofNat a = UInt8.ofNat b) : a = b := by
 have := congrArg UInt8.toNat h
 rw [UInt8.toNat_ofNat', UInt8.toNat_ofNat'] at this
 omega
theorem Vh (s : ByteArray) : ∀ (f i : Nat) (w : List Nat), (∀ c ∈ w, c < 128 ∧ c ≠ 92) → ln s ≤ i + f → (Hm s f i = w.map UInt8.ofNat ↔ (us s).drop i = w)
 | 0, i, w, _, hf => by
  have hd : (us s).drop i = [] := List.drop_eq_nil_iff.2 (by rw [Ab]; omega)
  rw [hd]
  show [] = w.map UInt8.ofNat ↔ [] = w
  cases w <;> simp
 | f + 1, i, w, hw, hf => by
  rcases Nat.lt_or_ge i (ln s) with h | h
  ·have hdr := Aho s h
   have bad : ∀ (b : UInt8) (r : List UInt8), (128 ≤ b.toNat ∨ b.toNat = 92) → ¬ b :: r = w.map UInt8.ofNat := by
    intro b r hb he
    cases w with
    | nil => cases he
    | cons c t =>
     obtain ⟨h1, h2⟩ := hw c (by simp)
     have h3 : b = UInt8.ofNat c := (List.cons.inj he).1
     rw [h3, UInt8.toNat_ofNat'] at hb
     omega
   have nob : 128 ≤ un s i → ¬ (us s).drop i = w := by
    intro hb he
    rw [hdr] at he
    have := hw (un s i) (by rw [← he]; simp)
    omega
   cases hp : prB s i
   ·rw [Np s f i h hp]
    unfold Wx
    by_cases hhl : (hiB (un s i) || loB (un s i)) = true
    ·have hb : 128 ≤ un s i := by
      unfold hiB loB at hhl
      simp only [Bool.or_eq_true, Bool.and_eq_true, decide_eq_true_eq] at hhl
      omega
     rw [if_pos hhl]
     constructor
     ·intro he
      exact absurd he (bad 92 _ (.inr rfl))
     ·intro he
      exact absurd he (nob hb)
    ·rw [if_neg hhl]
     rcases Nat.lt_or_ge (un s i) 128 with hu | hu
     ·rw [Ac2 hu, hdr]
      show UInt8.ofNat (un s i) :: Hm s f (i + 1) = _ ↔ _
      cases w with
      | nil => simp
      | cons c t =>
       have ih := Vh s f (i + 1) t (fun d hd => hw d (by simp [hd])) (by omega)
       have hc := hw c (by simp)
       rw [List.map_cons, List.cons.injEq, List.cons.injEq, ih]
       constructor
       ·rintro ⟨h1, h2⟩
        exact ⟨Wv (by omega) (by omega) h1, h2⟩
       ·rintro ⟨h1, h2⟩
        exact ⟨by rw [h1], h2⟩
     ·obtain ⟨b, r, hb1, hb2⟩ := Pq hu
      rw [hb1]
      constructor
      ·intro he
       exact absurd he (bad b _ (.inl hb2))
      ·intro he
       exact absurd he (nob hu)
   ·rw [Qm s f i h hp]
    obtain ⟨p1, p2, p3, p4, p5⟩ := Pu s i hp
    have hpp : 128 ≤ prP s i := by unfold prP; omega
    obtain ⟨b, r, hb1, hb2⟩ := Pq hpp
    rw [hb1]
    constructor
    ·intro he
     exact absurd he (bad b _ (.inl hb2))
    ·intro he
     exact absurd he (nob (by omega))
  ·rw [Ts s (f + 1) i (by omega)]
   have hd : (us s).drop i = [] := List.drop_eq_nil_iff.2 (by rw [Ab]; omega)
   rw [hd]
   cases w <;> simp
theorem Pl (s : ByteArray) {w : List Nat} (hw : ∀ c ∈ w, c < 128 ∧ c ≠ 92) : J2 s = w.map UInt8.ofNat ↔ us s = w := by
 have := Vh s (ln s) 0 w hw (by omega)
 rw [List.drop_zero] at this
 exact this
theorem Uo : ∀ w ∈ wordsL, ∀ c ∈ w, c < 128 ∧ c ≠ 92 := by decide +kernel
theorem Up : ∀ w ∈ marksL, ∀ c ∈ w, c < 128 ∧ c ≠ 92 := by decide +kernel


end
end Go.Proofs.YtmimeejjaneedaaGreatDoor
