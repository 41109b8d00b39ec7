/-
  Rest of the reference at any two; the law NumberBinary.
-/
import Derived.Test.YtbinpcoaghpcdaaRr
import Derived.Test.YtbinpcoaghpcdaaSums
namespace Go.Proofs.Ytbinpcoaghpcdaa
open Go.RowKit
theorem len_up {o q : Nat} (h : o < 9007199254740992) (hq : q ≤ 2100) : (wds (o * 2 ^ q)).length ≤ 70 := by
  refine wds_len_lt (k := 70) ?_
  obtain ⟨K, hK⟩ : ∃ K : Nat, K = 70 := ⟨_, rfl⟩
  have h1 : o * 2 ^ q < 2 ^ 53 * 2 ^ q := Nat.mul_lt_mul_of_pos_right h (Nat.two_pow_pos _)
  rw [← hK, show (4294967296 : Nat) = 2 ^ 32 from rfl, ← Nat.pow_mul]
  refine Nat.lt_of_lt_of_le h1 ?_
  rw [← Nat.pow_add]
  exact Nat.pow_le_pow_right (by omega) (by omega)
theorem rest_val {o1 o2 d1 d2 a b T : Nat} (ha : fmag a = o1 * 2 ^ (d1 + T)) (hb : fmag b = o2 * 2 ^ (d2 + T)) (hb0 : 0 < b) : (o1 * 2 ^ d1 % (o2 * 2 ^ d2)) * 2 ^ T = fmag (modm a b) := by
  rw [modm_spec a hb0, ha, hb, Nat.pow_add, Nat.pow_add, ← Nat.mul_assoc, ← Nat.mul_assoc, Nat.mul_mod_mul_right]
theorem parts_top {o a : Nat} {p : Int} (ho : 0 < o) (ha : a < 9218868437227405312) (h : fmag a = o * 2 ^ (p + 1074).toNat) : p ≤ 1023 := by
  obtain ⟨K, hK⟩ : ∃ K : Nat, K = 2098 := ⟨_, rfl⟩
  have h1 := fmag_inf ha K hK
  rw [h] at h1
  have h2 : 1 * 2 ^ (p + 1074).toNat ≤ o * 2 ^ (p + 1074).toNat := Nat.mul_le_mul_right _ ho
  rw [Nat.one_mul] at h2
  have := (Nat.pow_lt_pow_iff_right (a := 2) (by omega)).1 (Nat.lt_of_le_of_lt h2 h1)
  omega
theorem halved_wds (V U : Nat) (hV : (wds V).length ≤ 1024) (hU : (wds U).length ≤ 1024) (hU0 : 0 < U) :
    RowKit.Hid (∀ W A c C d, RW W W.heap.size A (wds V) → RW W W.heap.size C (wds U) → Calls Try.prog 90 #[.slice A (wds V).length c, .slice C (wds U).length d] W (fun e w' => ∃ v C2 d2, e = .returned (.tuple #[v, .slice C2 (wds (V % U)).length d2]) ∧ ((wds (V % U)).length ≤ d2 ∧ RW w' w'.heap.size C2 (wds (V % U))) ∧ Below W.heap.size W w')) :=
  Lib.hid (fun W A c C d h g => (halved_any A C _ c _ d (wds V) (wds U) W rfl hV h rfl hU g (wds_nrm U) (by rw [wds_val]; exact hU0)).mono (by
    rintro e w' ⟨A2, n2, c2, C2, m2, d2, rfl, ⟨rfl, _, rfl, h2, _, h3⟩, hb⟩
    rw [wds_val, wds_val] at h2 h3
    rw [wds_val, wds_val]
    exact ⟨_, C2, d2, rfl, ⟨h2, h3⟩, hb⟩))
set_option maxHeartbeats 1000000 in
theorem qrest_fin (x y : Nat) (w : World) (hx : x < 18446744073709551616) (hy : y < 18446744073709551616) (hx2 : rung x < 9218868437227405312) (hx0 : 0 < rung x) (hy2 : rung y < 9218868437227405312) (hy0 : 0 < rung y) :
    Calls Try.prog 76 #[.float .f64 x, .float .f64 y] w fun e w' => e = .returned (.float .f64 (Ieee.double.word (fneg x) (modm (rung x) (rung y)))) ∧ Below w.heap.size w w' := by
  have C1 := Lib.hid (fun W => finite_any x W hx)
  rw [show (!fnan x && !finf x) = true by unfold fnan finf; rw [decide_eq_false (by omega), decide_eq_false (by omega)]; rfl] at C1
  have C2 := Lib.hid (fun W => isNaN_any y W)
  rw [show fnan y = false by unfold fnan; exact decide_eq_false (by omega)] at C2
  have C3 := Lib.hid (fun W => isInf0_any y W hy)
  rw [show finf y = false by unfold finf; exact decide_eq_false (by omega)] at C3
  have hz := ord_zero y
  rw [decide_eq_false (by omega)] at hz
  have hzx := ord_zero x
  rw [decide_eq_false (by omega)] at hzx
  have C4 := Lib.hid (fun W => abs_any x W hx)
  have C5 := Lib.hid (fun W => abs_any y W hy)
  obtain ⟨o1, N1, p1, hN1, _, hN12, ho1, hol1, ⟨hp1, _⟩, hf1, _, P1⟩ := rparts_told (rung x) hx0 hx2
  obtain ⟨o2, N2, p2, hN2, _, hN22, ho2, hol2, ⟨hp2, _⟩, hf2, _, P2⟩ := rparts_told (rung y) hy0 hy2
  have hq1 := parts_top ho1 hx2 hf1
  have hq2 := parts_top ho2 hy2 hf2
  have hu := modm_lt (rung x) hy0
  have C12 := Lib.hid (fun W => copysign_any (modm (rung x) (rung y)) x W (by omega) hx)
  rw [(pos_rung (x := modm (rung x) (rung y)) (by omega)).1] at C12
  have up0 : ∀ (o N : Nat), N = (wds o).length → N ≤ 2 → RowKit.Hid (∀ W A c, N ≤ c → RW W W.heap.size A (wds o) → Calls Try.prog 91 #[.slice A N c, .int .i64 0] W (SlPost (wds (o * 2 ^ 0)) W)) := fun o N hN hN2 => Lib.hid (fun W A c hc h => by
    have := up_any A N c 0 (wds o) W hN.symm hc (by omega) h (by omega)
    rw [wds_val] at this
    exact this)
  have upq : ∀ (o N q : Nat), N = (wds o).length → N ≤ 2 → q ≤ 2100 → RowKit.Hid (∀ W A c, N ≤ c → RW W W.heap.size A (wds o) → Calls Try.prog 91 #[.slice A N c, .int .i64 q] W (SlPost (wds (o * 2 ^ q)) W)) := fun o N q hN hN2 hq => Lib.hid (fun W A c hc h => by
    have := up_any A N c q (wds o) W hN.symm hc (by omega) h (by omega)
    rw [wds_val] at this
    exact this)
  have near : ∀ (R : Nat) (ex : Int), R < 9007199254740992 → -1074 ≤ ex → ex ≤ 1023 → (wds R).length ≤ 70 → R * 2 ^ (ex + 1074).toNat = fmag (modm (rung x) (rung y)) → RowKit.Hid (∀ W A c, (wds R).length ≤ c → RW W W.heap.size A (wds R) → Calls Try.prog 92 #[.slice A (wds R).length c, .int .i64 ex] W fun e w' => e = .returned (.float .f64 (modm (rung x) (rung y))) ∧ Below W.heap.size W w') := fun R ex hR he1 he2 hl hf => Lib.hid (fun W A c hc h => rnear_ex A _ c _ ex (wds R) W rfl hc (by omega) h (by rw [wds_val]; exact hR) he1 he2 (by omega) (by rw [wds_val]; exact hf))
  by_cases hlt : p2 < p1
  · obtain ⟨q, hq⟩ : ∃ q : Nat, p1 = p2 + (q : Int) := ⟨(p1 - p2).toNat, by omega⟩
    have hR : o1 * 2 ^ q % (o2 * 2 ^ 0) < 9007199254740992 := Nat.lt_trans (Nat.mod_lt _ (by rw [Nat.pow_zero]; omega)) (by rw [Nat.pow_zero]; omega)
    exact qrest_wb x y _ _ N1 N2 q _ _ p1 p2 _ _ _ _ _ w C1 C2 C3 hz hzx C4 C5 (Lib.hid P1) (Lib.hid P2) (decide_eq_true hlt) (by rw [IntWalk.i64_in _ (by omega)]; omega) (upq o1 N1 q hN1 hN12 (by omega)) (up0 o2 N2 hN2 hN22) (halved_wds (o1 * 2 ^ q) (o2 * 2 ^ 0) (Nat.le_trans (len_up hol1 (by omega)) (by omega)) (Nat.le_trans (len_up hol2 (by omega)) (by omega)) (by rw [Nat.pow_zero]; omega)) (near _ p2 hR hp2 hq2 (by have := len_up (q := 0) hR (by omega); rw [Nat.pow_zero, Nat.mul_one] at this; exact this) (rest_val (by rw [hf1, show (p1 + 1074).toNat = q + (p2 + 1074).toNat by omega]) (by rw [hf2, Nat.zero_add]) hy0)) C12
  · obtain ⟨q, hq⟩ : ∃ q : Nat, p2 = p1 + (q : Int) := ⟨(p2 - p1).toNat, by omega⟩
    have hR : o1 * 2 ^ 0 % (o2 * 2 ^ q) < 9007199254740992 := Nat.lt_of_le_of_lt (Nat.mod_le _ _) (by rw [Nat.pow_zero]; omega)
    exact qrest_wa x y _ _ N1 N2 q _ _ p1 p2 _ _ _ _ _ w C1 C2 C3 hz hzx C4 C5 (Lib.hid P1) (Lib.hid P2) (decide_eq_false hlt) (by rw [IntWalk.i64_in _ (by omega)]; omega) (up0 o1 N1 hN1 hN12) (upq o2 N2 q hN2 hN22 (by omega)) (halved_wds (o1 * 2 ^ 0) (o2 * 2 ^ q) (Nat.le_trans (len_up hol1 (by omega)) (by omega)) (Nat.le_trans (len_up hol2 (by omega)) (by omega)) (Nat.mul_pos ho2 (Nat.two_pow_pos _))) (near _ p1 hR hp1 hq1 (by have := len_up (q := 0) hR (by omega); rw [Nat.pow_zero, Nat.mul_one] at this; exact this) (rest_val (by rw [hf1, Nat.zero_add]) (by rw [hf2, show (p2 + 1074).toNat = q + (p1 + 1074).toNat by omega]) hy0)) C12
theorem qrest_any (x y : Nat) (w : World) (hx : x < 18446744073709551616) (hy : y < 18446744073709551616) : Calls Try.prog 76 #[.float .f64 x, .float .f64 y] w fun e w' => e = .returned (.float .f64 (restV x y)) ∧ Below w.heap.size w w' := by
  have key : ∀ v, (Calls Try.prog 76 #[.float .f64 x, .float .f64 y] w fun e w' => e = .returned (.float .f64 v) ∧ w = w') → v = restV x y → Calls Try.prog 76 #[.float .f64 x, .float .f64 y] w fun e w' => e = .returned (.float .f64 (restV x y)) ∧ Below w.heap.size w w' := fun v h e => by
    subst e
    exact h.mono fun e w' ⟨a, b⟩ => ⟨a, by subst b; exact Below.refl _ _⟩
  cases h1 : (!fnan x && !finf x)
  · refine key _ (qrest_s0 x y w hx h1) ?_
    unfold restV
    refine (if_pos ?_).symm
    cases e1 : finf x
    · cases e2 : fnan x
      · rw [e1, e2] at h1; cases h1
      · exact .inr (.inl rfl)
    · exact .inl rfl
  · have e1 : finf x = false := by cases e : finf x <;> rw [e] at h1 <;> simp at h1 ⊢
    have e2 : fnan x = false := by cases e : fnan x <;> rw [e] at h1 <;> simp at h1 ⊢
    have hx2 := fin_of e1 e2
    cases h2 : fnan y
    · by_cases h3 : rung y = 0
      · refine key _ (qrest_s2 x y w hx h1 h2 h3) ?_
        unfold restV
        exact (if_pos (.inr (.inr (.inr h3)))).symm
      · have hv : restV x y = if rung y = 9218868437227405312 then x else Ieee.double.word (fneg x) (modm (rung x) (rung y)) := by
          unfold restV
          refine if_neg ?_
          rintro (h | h | h | h)
          · rw [e1] at h; cases h
          · rw [e2] at h; cases h
          · rw [h2] at h; cases h
          · exact h3 h
        cases h4 : finf y
        · have hy2 := fin_of h4 h2
          rw [if_neg (by omega)] at hv
          rcases Nat.eq_zero_or_pos (rung x) with h5 | h5
          · refine key _ (qrest_s4 x y w hx hy h1 h2 h3 h4 h5) ?_
            have h6 : modm (rung x) (rung y) = rung x := (modm_eq (by omega) (by rw [h5, fmag_zero, Nat.zero_mod])).symm
            rw [hv, h6]
            exact word_split x hx
          · rw [hv]
            exact qrest_fin x y w hx hy hx2 h5 hy2 (by omega)
        · refine key _ (qrest_s3 x y w hx hy h1 h2 h3 h4) ?_
          have : rung y = 9218868437227405312 := by unfold finf at h4; have := of_decide_eq_true h4; omega
          rw [hv, if_pos this]
    · refine key _ (qrest_s1 x y w hx h1 h2) ?_
      unfold restV
      exact (if_pos (.inr (.inr (.inl h2)))).symm
end Go.Proofs.Ytbinpcoaghpcdaa
