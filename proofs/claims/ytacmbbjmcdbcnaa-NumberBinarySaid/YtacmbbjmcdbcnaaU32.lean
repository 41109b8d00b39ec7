/-
  Contracts of Uint32 of both: a float modulo 2^32.
-/
import Derived.Test.YtacmbbjmcdbcnaaLawH
import Derived.Test.YtacmbbjmcdbcnaaRB
import Derived.Test.YtacmbbjmcdbcnaaParts2
namespace Go.Proofs.Ytacmbbjmcdbcnaa
open Go.RowKit
/-- The whole number of an amount. -/
def trn (a : Nat) : Nat := fmag a / fmag 4607182418800017408
theorem trn_eq {a K : Nat} (hK : K = 1074) : trn a = fmag a / 2 ^ K := by unfold trn; rw [fmag_one hK]
theorem cut_zero (s : Bool) (n d : Nat) : Ieee.Toward.zero.cut s n d = n / 2 ^ d := by
  unfold Ieee.Toward.cut
  simp only
  rw [Nat.one_shiftLeft]
  show n / 2 ^ min d (n.log2 + 2) + 0 = _
  rw [Nat.add_zero]
  by_cases hm : d ≤ n.log2 + 2
  · rw [Nat.min_eq_left hm]
  · rw [Nat.min_eq_right (by omega)]
    have hlt : n < 2 ^ (n.log2 + 2) := by
      rcases Nat.eq_zero_or_pos n with h0 | h0
      · rw [h0]; exact Nat.two_pow_pos _
      · have := (log2_two n h0).2
        have h9 : 2 ^ (n.log2 + 1) ≤ 2 ^ (n.log2 + 2) := Nat.pow_le_pow_right (by omega) (by omega)
        omega
    have hlt2 : n < 2 ^ d := Nat.lt_of_lt_of_le hlt (Nat.pow_le_pow_right (by omega) (by omega))
    rw [Nat.div_eq_of_lt hlt, Nat.div_eq_of_lt hlt2]
theorem toInt_word (s : Bool) {r : Nat} (hr : r < 9218868437227405312) : (FloatKind.f64.decode (Ieee.double.word s r)).toInt .zero = some (if s = true then -(trn r : Int) else (trn r : Int)) := by
  obtain ⟨K, hK⟩ : ∃ K : Nat, K = 1074 := ⟨_, rfl⟩
  obtain ⟨m, e, h1, h2, h3⟩ := read_word s hr
  rw [show FloatKind.f64.decode (Ieee.double.word s r) = Ieee.double.read (Ieee.double.word s r) from rfl, h1]
  unfold Ieee.Datum.toInt Ieee.Datum.integral
  simp only [cut_zero, signed_eq, Nat.pow_zero, Nat.mul_one]
  have hq : (m <<< e.toNat) / 2 ^ (-e).toNat = trn r := by
    rw [trn_eq hK]
    have hA : fmag r * 2 ^ (-e).toNat = (m <<< e.toNat) * 2 ^ K := by
      rw [h3, Nat.shiftLeft_eq, Nat.mul_assoc, Nat.mul_assoc, ← Nat.pow_add, ← Nat.pow_add, show (e + 1074).toNat + (-e).toNat = e.toNat + K by omega]
    rw [← Nat.mul_div_mul_right (m <<< e.toNat) (2 ^ (-e).toNat) (Nat.two_pow_pos K), ← hA, Nat.mul_comm (2 ^ (-e).toNat), Nat.mul_div_mul_right _ _ (Nat.two_pow_pos _)]
  rw [hq]
theorem trn_mod (a : Nat) : trn (modm a 4751297606875873280) = trn a % 4294967296 := by
  obtain ⟨K, hK⟩ : ∃ K : Nat, K = 1074 := ⟨_, rfl⟩
  have h0 : (0 : Nat) < 4751297606875873280 := by omega
  obtain ⟨J, hJ⟩ : ∃ J : Nat, J = 1054 := ⟨_, rfl⟩
  have f1 := fmag_make 4503599627370496 J (by omega) (by omega)
  rw [show J * 4503599627370496 + 4503599627370496 = 4751297606875873280 by rw [hJ], show (4503599627370496 : Nat) = 2 ^ 52 from rfl, ← Nat.pow_add, show 52 + J = K + 32 by omega, Nat.pow_add] at f1
  rw [trn_eq hK, trn_eq hK, modm_spec a h0, f1, Nat.mod_mul_right_div_self]
/-- A float modulo 2^32. -/
def u32V (x : Nat) : Nat := if (fnan x || finf x) = true then 0 else if fneg x = true then (4294967296 - trn (rung x) % 4294967296) % 4294967296 else trn (rung x) % 4294967296
theorem u32V_lt (x : Nat) : u32V x < 4294967296 := by
  unfold u32V
  split
  · omega
  · split <;> omega
theorem conv_i64 (s : Bool) {r : Nat} (hr : r < 9218868437227405312) (ht : trn r < 9223372036854775808) (w : World) :
    (convert 22 2 (.float .f64 (Ieee.double.word s r))).run Try.prog w = .ok (.int .i64 (if s = true then -(trn r : Int) else (trn r : Int))) w := by
  refine run_convert_float_int w 22 2 .f64 .i64 _ _ (by kernel_rfl) (by kernel_rfl) ?_
  unfold floatToIntVal
  rw [toInt_word s hr]
  simp only
  have e1 : IntKind.i64.min = -9223372036854775808 := rfl
  have e2 : IntKind.i64.max = 9223372036854775807 := rfl
  rw [if_pos (by rw [e1, e2]; cases s <;> simp <;> omega)]
set_option maxRecDepth 100000 in
theorem nu32_any (x : Nat) (w : World) (hx : x < 18446744073709551616) : Calls Try.prog 19 #[.float .f64 x] w fun e w' => e = .returned (.int .u32 (u32V x : Nat)) ∧ w = w' := by
  have C1 := Lib.hid (fun W => isNaN_any x W)
  have C2 := Lib.hid (fun W => isInf0_any x W hx)
  cases e1 : fnan x
  · cases e2 : finf x
    · rw [e1] at C1
      rw [e2] at C2
      have hfin : rung x < 9218868437227405312 := by unfold fnan at e1; unfold finf at e2; have := of_decide_eq_false e1; have := of_decide_eq_false e2; omega
      have C3 := Lib.hid (fun W => Mod_fin x 4751297606875873280 hx hfin (by omega) (by decide) (by decide) W)
      rw [show rung 4751297606875873280 = 4751297606875873280 by decide] at C3
      have hm := modm_lt (rung x) (Y := 4751297606875873280) (by omega)
      have ht := trn_mod (rung x)
      have hc := conv_i64 (fneg x) (r := modm (rung x) 4751297606875873280) (by omega) (by rw [ht]; omega) w
      rw [ht] at hc
      have hv : IntKind.u32.wrap (if fneg x = true then -((trn (rung x) % 4294967296 : Nat) : Int) else ((trn (rung x) % 4294967296 : Nat) : Int)) = (u32V x : Nat) := by
        have hu : u32V x = if fneg x = true then (4294967296 - trn (rung x) % 4294967296) % 4294967296 else trn (rung x) % 4294967296 := by
          unfold u32V
          rw [e1, e2]
          exact if_neg (by simp)
        rw [hu, IntKind.wrap_u32]
        have htl : trn (rung x) % 4294967296 < 4294967296 := Nat.mod_lt _ (by omega)
        obtain ⟨t, htt⟩ : ∃ t, trn (rung x) % 4294967296 = t := ⟨_, rfl⟩
        rw [htt] at htl ⊢
        cases fneg x
        · rw [if_neg (by simp), if_neg (by simp)]; omega
        · rw [if_pos rfl, if_pos rfl]; omega
      obtain ⟨q, hq⟩ : ∃ q, Ieee.double.word (fneg x) (modm (rung x) 4751297606875873280) = q := ⟨_, rfl⟩
      obtain ⟨v, hvv⟩ : ∃ v, u32V x = v := ⟨_, rfl⟩
      obtain ⟨i, hi⟩ : ∃ i : Int, (if fneg x = true then -((trn (rung x) % 4294967296 : Nat) : Int) else ((trn (rung x) % 4294967296 : Nat) : Int)) = i := ⟨_, rfl⟩
      rw [hq] at hc C3
      rw [hi] at hc hv
      rw [hvv] at hv ⊢
      clear e1 e2 hx hfin hm ht hq hvv hi
      go_enter Try.func19, Try.ntmps19
      go_wp2_with fail
      refine (C1.out _).mono ?_
      rintro e w' ⟨rfl, rfl⟩
      go_wp2_with fail
      refine (C2.out _).mono ?_
      rintro e w' ⟨rfl, rfl⟩
      go_wp2_with fail
      refine (C3.out _).mono ?_
      rintro e w' ⟨rfl, rfl⟩
      go_wp2
      go_ret
      exact ⟨by first | rfl | (rw [← hv]; rfl), rfl⟩
    · rw [show u32V x = 0 from by unfold u32V; rw [e2]; simp]
      rw [e1] at C1
      rw [e2] at C2
      clear e1 e2 hx
      go_enter Try.func19, Try.ntmps19
      go_wp2_with fail
      refine (C1.out _).mono ?_
      rintro e w' ⟨rfl, rfl⟩
      go_wp2_with fail
      refine (C2.out _).mono ?_
      rintro e w' ⟨rfl, rfl⟩
      go_wp2
      go_ret
      exact ⟨rfl, rfl⟩
  · rw [show u32V x = 0 from by unfold u32V; rw [e1]; simp]
    rw [e1] at C1
    clear e1 hx C2
    go_enter Try.func19, Try.ntmps19
    go_wp2_with fail
    refine (C1.out _).mono ?_
    rintro e w' ⟨rfl, rfl⟩
    go_wp2
    go_ret
    exact ⟨rfl, rfl⟩
theorem fmag_parts {a k m : Nat} (h0 : 0 < a) (ha : a < 9218868437227405312) (hkm : fwhole a = 2 ^ (k + 1) * m + 2 ^ k) : -1074 ≤ fpow a + (k : Nat) ∧ fmag a = (2 * m + 1) * 2 ^ (fpow a + (k : Nat) + 1074).toNat := by
  have h1 : fwhole a = (2 * m + 1) * 2 ^ k := by rw [hkm, Nat.pow_succ]; grind
  have h2 : fmag a = fwhole a * 2 ^ (fpow a + 1074).toNat ∧ -1074 ≤ fpow a := by
    unfold fmag fwhole fpow
    by_cases h : a < 4503599627370496
    · rw [if_pos h, Nat.div_eq_of_lt h, if_pos rfl, if_pos rfl, Nat.mod_eq_of_lt h]
      exact ⟨by simp, by omega⟩
    · have hq : ¬ a / 4503599627370496 = 0 := by omega
      rw [if_neg h, if_neg hq, if_neg hq, show (((a / 4503599627370496 : Nat) : Int) - 1075 + 1074).toNat = a / 4503599627370496 - 1 by omega, Nat.add_comm 4503599627370496]
      exact ⟨rfl, by omega⟩
  refine ⟨by omega, ?_⟩
  rw [h2.1, h1, Nat.mul_assoc, ← Nat.pow_add, show k + (fpow a + 1074).toNat = (fpow a + (k : Nat) + 1074).toNat by omega]
/-- What the reference reckons of parts. -/
theorem trn_parts {a k m : Nat} (h0 : 0 < a) (ha : a < 9218868437227405312) (hkm : fwhole a = 2 ^ (k + 1) * m + 2 ^ k) :
    (32 ≤ fpow a + (k : Nat) → trn a % 4294967296 = 0) ∧ (∀ q : Nat, fpow a + (k : Nat) = (q : Int) → trn a = (2 * m + 1) * 2 ^ q) ∧ (∀ q : Nat, fpow a + (k : Nat) = -(q : Int) → trn a = (2 * m + 1) / 2 ^ q) := by
  obtain ⟨K, hK⟩ : ∃ K : Nat, K = 1074 := ⟨_, rfl⟩
  obtain ⟨h1, h2⟩ := fmag_parts h0 ha hkm
  rw [trn_eq hK, h2]
  have hU := Nat.two_pow_pos K
  have up : ∀ q : Nat, fpow a + (k : Nat) = (q : Int) → (2 * m + 1) * 2 ^ (fpow a + (k : Nat) + 1074).toNat / 2 ^ K = (2 * m + 1) * 2 ^ q := fun q hq => by
    rw [hq, show ((q : Int) + 1074).toNat = q + K by omega, Nat.pow_add, ← Nat.mul_assoc, Nat.mul_div_cancel _ hU]
  refine ⟨fun h => ?_, up, fun q hq => ?_⟩
  · obtain ⟨q, hq⟩ : ∃ q : Nat, fpow a + (k : Nat) = ((q + 32 : Nat) : Int) := ⟨(fpow a + (k : Nat) - 32).toNat, by omega⟩
    rw [up _ hq, Nat.pow_add, show (4294967296 : Nat) = 2 ^ 32 from rfl, ← Nat.mul_assoc, Nat.mul_mod_left]
  · rw [hq, show (-(q : Int) + 1074).toNat = K - q by omega]
    obtain ⟨d, hd⟩ : ∃ d, K = d + q := ⟨K - q, by omega⟩
    rw [hd, Nat.add_sub_cancel, Nat.pow_add, Nat.mul_comm (2 ^ d) (2 ^ q), Nat.mul_div_mul_right _ _ (Nat.two_pow_pos d)]
set_option maxRecDepth 100000 in
set_option maxHeartbeats 1000000 in
theorem qu32_zero (x : Nat) (w : World) (hx : x < 18446744073709551616) (h : fnan x = true ∨ finf x = true ∨ rung x = 0) : Calls Try.prog 20 #[.float .f64 x] w fun e w' => e = .returned (.int .u32 0) ∧ w = w' := by
  have C1 := Lib.hid (fun W => finite_any x W hx)
  have C2 := Lib.hid (fun W => abs_any x W hx)
  by_cases hb : fnan x = true ∨ finf x = true
  · rw [show (!fnan x && !finf x) = false from by rcases hb with h1 | h1 <;> rw [h1] <;> simp] at C1
    clear hx h hb C2
    go_enter Try.func20, Try.ntmps20
    go_wp2_with fail
    refine (C1.out _).mono ?_
    rintro e w' ⟨rfl, rfl⟩
    go_wp2
    go_ret
    exact ⟨rfl, rfl⟩
  · have h0 : rung x = 0 := (h.resolve_left (fun e => hb (.inl e))).resolve_left (fun e => hb (.inr e))
    have e1 : fnan x = false := by unfold fnan; rw [h0]; rfl
    have e2 : finf x = false := by unfold finf; rw [h0]; rfl
    rw [e1, e2] at C1
    rw [h0] at C2
    have C3 := Lib.hid (fun W => rparts_zero 0 W (by omega) (by decide) (by decide))
    have h2 := ord_below x
    rw [h0, decide_eq_false (by omega), Bool.and_false, Bool.and_false] at h2
    clear hx h hb h0 e1 e2
    go_enter Try.func20, Try.ntmps20
    go_wp2_with fail
    refine (C1.out _).mono ?_
    rintro e w' ⟨rfl, rfl⟩
    go_wp2_with fail
    refine (C2.out _).mono ?_
    rintro e w' ⟨rfl, rfl⟩
    go_wp2_with fail
    refine (C3.out _).mono ?_
    rintro e w' ⟨rfl, rfl⟩
    go_wp2
    go_ret
    exact ⟨rfl, rfl⟩
theorem wds_first {v : Nat} (h : 0 < (wds v).length) : (wds v)[0]? = some (v % 4294967296) := by
  have h1 := wds_val v
  have h2 := wds_ws v
  cases hl : wds v with
  | nil => rw [hl] at h; simp at h
  | cons y r =>
    rw [hl] at h1 h2
    have h3 := h2 y (by simp)
    have h4 : val (y :: r) = y + 4294967296 * val r := rfl
    rw [h4] at h1
    rw [List.getElem?_cons_zero, ← h1]
    congr 1
    omega
/-- Parts of the reference, of a float above 0. -/
theorem rparts_told (a : Nat) (h0 : 0 < a) (ha : a < 9218868437227405312) : ∃ (o N : Nat) (p : Int), N = (wds o).length ∧ 0 < N ∧ N ≤ 2 ∧ 0 < o ∧ o < 9007199254740992 ∧ (-1074 ≤ p ∧ p < 1048576) ∧ fmag a = o * 2 ^ (p + 1074).toNat ∧
    ((32 ≤ p → trn a % 4294967296 = 0) ∧ (∀ q : Nat, p = (q : Int) → trn a = o * 2 ^ q) ∧ (∀ q : Nat, p = -(q : Int) → trn a = o / 2 ^ q)) ∧
    ∀ W, Calls Try.prog 59 #[.float .f64 a] W fun e w' => ∃ A c, e = .returned (.tuple #[.slice A N c, .int .i64 p, .int .i64 0]) ∧ (N ≤ c ∧ RW w' w'.heap.size A (wds o)) ∧ Below W.heap.size W w' := by
  obtain ⟨p1, p2, p3⟩ := pos_rung (x := a) (by omega)
  have hb : fbad a = false := by
    unfold fbad fnan finf
    rw [p1, p2, decide_eq_false (by omega), decide_eq_false (by omega)]; rfl
  obtain ⟨f1, f2⟩ := fwhole_pos (x := a) h0
  obtain ⟨k, m, hkm⟩ := odd_part _ f1
  have h9 : 2 ^ k * (2 * m + 1) = fwhole a := by rw [hkm, Nat.pow_succ]; grind
  have h7 : 1 * (2 * m + 1) ≤ 2 ^ k * (2 * m + 1) := Nat.mul_le_mul_right _ (Nat.two_pow_pos k)
  have hk64 : k < 53 := by
    have h8 : 2 ^ k * 1 ≤ 2 ^ k * (2 * m + 1) := Nat.mul_le_mul_left _ (by omega)
    have h6 : 2 ^ k < 2 ^ 53 := by have : (2 : Nat) ^ 53 = 9007199254740992 := rfl; omega
    exact (Nat.pow_lt_pow_iff_right (a := 2) (by omega)).1 h6
  refine ⟨2 * m + 1, _, fpow a + (k : Nat), rfl, ?_, wds_len_lt (by omega), by omega, by omega, ⟨(fmag_parts h0 ha hkm).1, by unfold fpow; split <;> omega⟩, (fmag_parts h0 ha hkm).2, trn_parts h0 ha hkm, fun W => (rparts_ok a W (by omega) hb (by rw [p1]; exact h0)).mono ?_⟩
  · rcases Nat.eq_zero_or_pos (wds (2 * m + 1)).length with h | h
    · have h5 := List.eq_nil_of_length_eq_zero h
      have h6 := wds_val (2 * m + 1)
      rw [h5] at h6
      have : val [] = 0 := rfl
      omega
    · exact h
  · rintro e w' ⟨k2, m2, A, n, c, hkm2, rfl, ⟨rfl, hc, hr⟩, hbw⟩
    obtain ⟨rfl, rfl⟩ := odd_one hkm hkm2 (by omega)
    exact ⟨A, c, rfl, ⟨hc, hr⟩, hbw⟩
set_option maxRecDepth 100000 in
set_option maxHeartbeats 1000000 in
theorem qu32_far (x a N : Nat) (p : Int) (l : List Nat) (w : World)
    (C1 : RowKit.Hid (∀ W, Calls Try.prog 58 #[.float .f64 x] W fun e w' => e = .returned (.bool true) ∧ W = w'))
    (C2 : RowKit.Hid (∀ W, Calls Try.prog 53 #[.float .f64 x] W fun e w' => e = .returned (.float .f64 a) ∧ W = w'))
    (C3 : RowKit.Hid (∀ W, Calls Try.prog 59 #[.float .f64 a] W fun e w' => ∃ A c, e = .returned (.tuple #[.slice A N c, .int .i64 p, .int .i64 0]) ∧ (N ≤ c ∧ RW w' w'.heap.size A l) ∧ Below W.heap.size W w'))
    (hp : 32 ≤ p) : Calls Try.prog 20 #[.float .f64 x] w fun e w' => e = .returned (.int .u32 0) ∧ Below w.heap.size w w' := by
  go_enter Try.func20, Try.ntmps20
  go_wp2_with fail
  refine (C1.out _).mono ?_
  rintro e w' ⟨rfl, rfl⟩
  go_wp2_with fail
  refine (C2.out _).mono ?_
  rintro e w' ⟨rfl, rfl⟩
  go_wp2_with fail
  refine (C3.out _).mono ?_
  rintro e w1 ⟨A, c, rfl, ⟨hc, hr⟩, b1⟩
  clear hc hr
  go_wp2
  go_ret
  exact ⟨rfl, b1⟩
set_option maxRecDepth 100000 in
set_option maxHeartbeats 1000000 in
theorem qu32_up (x a N q o n v : Nat) (s : Bool) (w : World)
    (C1 : RowKit.Hid (∀ W, Calls Try.prog 58 #[.float .f64 x] W fun e w' => e = .returned (.bool true) ∧ W = w'))
    (C2 : RowKit.Hid (∀ W, Calls Try.prog 53 #[.float .f64 x] W fun e w' => e = .returned (.float .f64 a) ∧ W = w'))
    (C3 : RowKit.Hid (∀ W, Calls Try.prog 59 #[.float .f64 a] W fun e w' => ∃ A c, e = .returned (.tuple #[.slice A N c, .int .i64 (q : Int), .int .i64 0]) ∧ (N ≤ c ∧ RW w' w'.heap.size A (wds o)) ∧ Below W.heap.size W w'))
    (hN : N = (wds o).length) (hN0 : 0 < N) (hN2 : N ≤ 2) (hq : q < 32) (hn : o * 2 ^ q % 4294967296 = n) (hs : (FloatKind.f64.format.order x 0 == some .lt) = s) (hv : v = if s = true then (4294967296 - n) % 4294967296 else n) :
    Calls Try.prog 20 #[.float .f64 x] w fun e w' => e = .returned (.int .u32 (v : Nat)) ∧ Below w.heap.size w w' := by
  have k1 : IntKind.u64.wrap (q : Int) = (q : Int) := by rw [IntKind.wrap_u64]; omega
  have k2 : min (q : Int).toNat 32 = q := by omega
  have hnl : n < 4294967296 := by omega
  have t0 : ¬ (32 : Int) ≤ (q : Int) := by omega
  have t1 : (0 : Int) ≤ (q : Int) := by omega
  have t2 : (0 : Int) < (N : Int) := by omega
  have HF := Lib.hid (wds_first (v := o) (by omega))
  have HN := Lib.hid hN
  have HN0 := Lib.hid hN0
  obtain ⟨f, hf⟩ : ∃ f, o % 4294967296 = f := ⟨_, rfl⟩
  rw [hf] at HF
  have k4 : f * 2 ^ q % 4294967296 = n := by rw [← hn, ← hf, Nat.mod_mul_mod]
  have k3 : (f : Int) * 2 ^ q % 4294967296 = (n : Int) := by
    rw [← k4]
    exact (show ((f * 2 ^ q % 4294967296 : Nat) : Int) = (f : Int) * 2 ^ q % 4294967296 by rw [Int.natCast_emod, Int.natCast_mul, Int.natCast_pow]; rfl).symm
  clear k4
  clear hN hN0 hN2 hq hn hf hnl
  have k5 : (-((f : Int) * 2 ^ q % 4294967296)) % 4294967296 = ((4294967296 - n) % 4294967296 : Nat) := by rw [k3]; omega
  have HK3 := Lib.hid k3
  have HK5 := Lib.hid k5
  clear k3 k5
  cases s
  · rw [if_neg (by simp)] at hv
    subst hv
    go_enter Try.func20, Try.ntmps20
    go_wp2_with fail
    refine (C1.out _).mono ?_
    rintro e w' ⟨rfl, rfl⟩
    go_wp2_with fail
    refine (C2.out _).mono ?_
    rintro e w' ⟨rfl, rfl⟩
    go_wp2_with fail
    refine (C3.out _).mono ?_
    rintro e w1 ⟨A, c, rfl, ⟨hc, hr⟩, b1⟩
    obtain ⟨b, off, rfl, _, hcell⟩ := hr.2 (by have := HN.out; have := HN0.out; omega)
    have hc0 := hcell 0 _ HF.out
    rw [Nat.add_zero] at hc0
    clear hcell hr hc C1 C2 C3
    go_wp2
    go_ret
    exact ⟨congrArg (fun z => Ending.returned (.int .u32 z)) HK3.out, b1⟩
  · rw [if_pos rfl] at hv
    subst hv
    go_enter Try.func20, Try.ntmps20
    go_wp2_with fail
    refine (C1.out _).mono ?_
    rintro e w' ⟨rfl, rfl⟩
    go_wp2_with fail
    refine (C2.out _).mono ?_
    rintro e w' ⟨rfl, rfl⟩
    go_wp2_with fail
    refine (C3.out _).mono ?_
    rintro e w1 ⟨A, c, rfl, ⟨hc, hr⟩, b1⟩
    obtain ⟨b, off, rfl, _, hcell⟩ := hr.2 (by have := HN.out; have := HN0.out; omega)
    have hc0 := hcell 0 _ HF.out
    rw [Nat.add_zero] at hc0
    clear hcell hr hc C1 C2 C3
    go_wp2
    go_ret
    exact ⟨congrArg (fun z => Ending.returned (.int .u32 z)) HK5.out, b1⟩
set_option maxRecDepth 100000 in
set_option maxHeartbeats 1000000 in
theorem qu32_down (x a N q o u M v : Nat) (p : Int) (s bb : Bool) (w : World)
    (C1 : RowKit.Hid (∀ W, Calls Try.prog 58 #[.float .f64 x] W fun e w' => e = .returned (.bool true) ∧ W = w'))
    (C2 : RowKit.Hid (∀ W, Calls Try.prog 53 #[.float .f64 x] W fun e w' => e = .returned (.float .f64 a) ∧ W = w'))
    (C3 : RowKit.Hid (∀ W, Calls Try.prog 59 #[.float .f64 a] W fun e w' => ∃ A c, e = .returned (.tuple #[.slice A N c, .int .i64 p, .int .i64 0]) ∧ (N ≤ c ∧ RW w' w'.heap.size A (wds o)) ∧ Below W.heap.size W w'))
    (C4 : RowKit.Hid (∀ W A c, N ≤ c → RW W W.heap.size A (wds o) → Calls Try.prog 60 #[.slice A N c, .int .i64 (q : Int)] W fun e w' => ∃ A2 c2, e = .returned (.tuple #[.slice A2 M c2, .bool bb]) ∧ (M ≤ c2 ∧ RW w' w'.heap.size A2 (wds u)) ∧ Below W.heap.size W w'))
    (hp : p < 0) (hpq : IntKind.i64.wrap (-p) = (q : Int)) (hM : M = (wds u).length) (hM2 : M < 1048576) (hs : (FloatKind.f64.format.order x 0 == some .lt) = s) (hv : v = if s = true then (4294967296 - u % 4294967296) % 4294967296 else u % 4294967296) :
    Calls Try.prog 20 #[.float .f64 x] w fun e w' => e = .returned (.int .u32 (v : Nat)) ∧ Below w.heap.size w w' := by
  have t0 : ¬ (32 : Int) ≤ p := by omega
  have t1 : ¬ (0 : Int) ≤ p := by omega
  obtain ⟨f, hf⟩ : ∃ f, u % 4294967296 = f := ⟨_, rfl⟩
  rw [hf] at hv
  have hfl : f < 4294967296 := by omega
  have k5 : (-(f : Int)) % 4294967296 = ((4294967296 - f) % 4294967296 : Nat) := by omega
  have HK5 := Lib.hid k5
  have HFL := Lib.hid hfl
  clear k5 hfl
  rcases Nat.eq_zero_or_pos M with h0 | h0
  · have hu0 : u = 0 := by
      have h5 := List.eq_nil_of_length_eq_zero (show (wds u).length = 0 by omega)
      have h6 := wds_val u
      rw [h5] at h6
      have : val [] = 0 := rfl
      omega
    have hv0 : v = 0 := by
      have : f = 0 := by omega
      subst this
      rw [hv]; cases s <;> rfl
    subst hv0 h0
    clear hf hv hu0 hM hM2 HK5 HFL hp
    cases s
    · go_enter Try.func20, Try.ntmps20
      go_wp2_with fail
      refine (C1.out _).mono ?_
      rintro e w' ⟨rfl, rfl⟩
      go_wp2_with fail
      refine (C2.out _).mono ?_
      rintro e w' ⟨rfl, rfl⟩
      go_wp2_with fail
      refine (C3.out _).mono ?_
      rintro e w1 ⟨A, c, rfl, ⟨hc, hr⟩, b1⟩
      go_wp2_with fail
      refine (C4.out _ _ _ hc hr).mono ?_
      rintro e w2 ⟨A2, c2, rfl, ⟨hc2, hr2⟩, b2⟩
      have B2 := below_le b1 b2
      clear hr hc hr2 hc2 C1 C2 C3 C4 b1 b2
      go_wp2
      go_ret
      exact ⟨rfl, B2⟩
    · go_enter Try.func20, Try.ntmps20
      go_wp2_with fail
      refine (C1.out _).mono ?_
      rintro e w' ⟨rfl, rfl⟩
      go_wp2_with fail
      refine (C2.out _).mono ?_
      rintro e w' ⟨rfl, rfl⟩
      go_wp2_with fail
      refine (C3.out _).mono ?_
      rintro e w1 ⟨A, c, rfl, ⟨hc, hr⟩, b1⟩
      go_wp2_with fail
      refine (C4.out _ _ _ hc hr).mono ?_
      rintro e w2 ⟨A2, c2, rfl, ⟨hc2, hr2⟩, b2⟩
      have B2 := below_le b1 b2
      clear hr hc hr2 hc2 C1 C2 C3 C4 b1 b2
      go_wp2
      go_ret
      exact ⟨rfl, B2⟩
  · have HF := Lib.hid (wds_first (v := u) (by omega))
    rw [hf] at HF
    have HM := Lib.hid hM
    have HM0 := Lib.hid h0
    have t2 : (0 : Int) < (M : Int) := by omega
    clear hf hM hM2 h0 hp
    cases s
    · rw [if_neg (by simp)] at hv
      subst hv
      go_enter Try.func20, Try.ntmps20
      go_wp2_with fail
      refine (C1.out _).mono ?_
      rintro e w' ⟨rfl, rfl⟩
      go_wp2_with fail
      refine (C2.out _).mono ?_
      rintro e w' ⟨rfl, rfl⟩
      go_wp2_with fail
      refine (C3.out _).mono ?_
      rintro e w1 ⟨A, c, rfl, ⟨hc, hr⟩, b1⟩
      go_wp2_with fail
      refine (C4.out _ _ _ hc hr).mono ?_
      rintro e w2 ⟨A2, c2, rfl, ⟨hc2, hr2⟩, b2⟩
      have B2 := below_le b1 b2
      obtain ⟨b, off, rfl, _, hcell⟩ := hr2.2 (by have := HM.out; have := HM0.out; omega)
      have hc0 := hcell 0 _ HF.out
      rw [Nat.add_zero] at hc0
      clear hcell
      clear hr hc hr2 hc2 C1 C2 C3 C4 b1 b2
      go_wp2
      go_ret
      exact ⟨rfl, B2⟩
    · rw [if_pos rfl] at hv
      subst hv
      go_enter Try.func20, Try.ntmps20
      go_wp2_with fail
      refine (C1.out _).mono ?_
      rintro e w' ⟨rfl, rfl⟩
      go_wp2_with fail
      refine (C2.out _).mono ?_
      rintro e w' ⟨rfl, rfl⟩
      go_wp2_with fail
      refine (C3.out _).mono ?_
      rintro e w1 ⟨A, c, rfl, ⟨hc, hr⟩, b1⟩
      go_wp2_with fail
      refine (C4.out _ _ _ hc hr).mono ?_
      rintro e w2 ⟨A2, c2, rfl, ⟨hc2, hr2⟩, b2⟩
      have B2 := below_le b1 b2
      obtain ⟨b, off, rfl, _, hcell⟩ := hr2.2 (by have := HM.out; have := HM0.out; omega)
      have hc0 := hcell 0 _ HF.out
      rw [Nat.add_zero] at hc0
      clear hcell
      clear hr hc hr2 hc2 C1 C2 C3 C4 b1 b2
      go_wp2
      go_ret
      exact ⟨congrArg (fun z => Ending.returned (.int .u32 z)) HK5.out, B2⟩
/-- Uint32 of the reference. -/
theorem qu32_any (x : Nat) (w : World) (hx : x < 18446744073709551616) : Calls Try.prog 20 #[.float .f64 x] w fun e w' => e = .returned (.int .u32 (u32V x : Nat)) ∧ Below w.heap.size w w' := by
  by_cases h : fnan x = true ∨ finf x = true ∨ rung x = 0
  · have hv : u32V x = 0 := by
      unfold u32V
      rcases h with h | h | h
      · rw [h]; rfl
      · rw [h]; simp
      · have : trn (rung x) = 0 := by unfold trn; rw [h, fmag_zero, Nat.zero_div]
        rw [this]; split
        · rfl
        · split <;> rfl
    rw [hv]
    exact (qu32_zero x w hx h).mono fun e w' ⟨a, b⟩ => ⟨a, by subst b; exact Below.refl _ _⟩
  · have e1 : fnan x = false := Bool.eq_false_iff.2 (fun e => h (.inl e))
    have e2 : finf x = false := Bool.eq_false_iff.2 (fun e => h (.inr (.inl e)))
    have h0 : 0 < rung x := Nat.pos_of_ne_zero (fun e => h (.inr (.inr e)))
    have C1 := Lib.hid (fun W => finite_any x W hx)
    rw [e1, e2] at C1
    have C2 := Lib.hid (fun W => abs_any x W hx)
    have hfin : rung x < 9218868437227405312 := by unfold fnan at e1; unfold finf at e2; have := of_decide_eq_false e1; have := of_decide_eq_false e2; omega
    have h2 := ord_below x
    rw [e1, decide_eq_true h0] at h2
    simp only [Bool.not_false, Bool.true_and, Bool.and_true] at h2
    have hv : u32V x = if fneg x = true then (4294967296 - trn (rung x) % 4294967296) % 4294967296 else trn (rung x) % 4294967296 := by
      unfold u32V
      rw [e1, e2]
      exact if_neg (by simp)
    obtain ⟨o, N, p, hN, hN0, hN2, ho, hol, hp, _, ⟨t1, t2, t3⟩, P⟩ := rparts_told (rung x) h0 hfin
    have C3 := Lib.hid P
    by_cases hp32 : 32 ≤ p
    · rw [t1 hp32] at hv
      have hv0 : u32V x = 0 := by rw [hv]; split <;> rfl
      rw [hv0]
      exact qu32_far x _ N p _ w C1 C2 C3 hp32
    · by_cases hp0 : 0 ≤ p
      · obtain ⟨q, rfl⟩ : ∃ q : Nat, p = (q : Int) := ⟨p.toNat, by omega⟩
        rw [t2 q rfl] at hv
        exact qu32_up x _ N q o _ _ (fneg x) w C1 C2 C3 hN hN0 hN2 (by omega) rfl h2 hv
      · obtain ⟨q, hq⟩ : ∃ q : Nat, p = -(q : Int) := ⟨(-p).toNat, by omega⟩
        rw [t3 q hq] at hv
        refine qu32_down x _ N q o (o / 2 ^ q) _ _ p (fneg x) (decide (o % 2 ^ q ≠ 0)) w C1 C2 C3 (Lib.hid (fun W A c hc hr => (rshr_any A N c (q : Int) (wds o) W hN.symm hc (by omega) hr).mono ?_)) (by omega) (by rw [IntWalk.i64_in _ (by omega)]; omega) rfl ?_ h2 hv
        · rintro e w' ⟨A2, n2, c2, rfl, rfl, hc2, hr2, hb2⟩
          rw [wds_val, Int.toNat_natCast] at hc2 hr2 ⊢
          exact ⟨A2, c2, rfl, ⟨hc2, hr2⟩, hb2⟩
        · have := wds_len_lt (n := o / 2 ^ q) (k := 2) (Nat.lt_of_le_of_lt (Nat.div_le_self _ _) (by omega))
          omega
end Go.Proofs.Ytacmbbjmcdbcnaa
