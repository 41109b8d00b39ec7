/-
  Contract of Shr of the reference.
-/
import Derived.Test.YtlabblkonkhmgaaDoorPShr
import Derived.Test.YtlabblkonkhmgaaDoorRshPure
namespace Go.Proofs.YtlabblkonkhmgaaDoor
open Go.RowKit
theorem bit_and (x r : Nat) (hx : x < 4294967296) : bits BinOp.and IntKind.u32 ((x : Int) / 2 ^ r) 1 = ((x / 2 ^ r % 2 : Nat) : Int) := by
  have h1 : x / 2 ^ r ≤ x := Nat.div_le_self _ _
  have e : ((x : Int) / 2 ^ r) = ((x / 2 ^ r : Nat) : Int) := by rw [Int.natCast_ediv, Int.natCast_pow]; rfl
  rw [e]
  obtain ⟨m, hm⟩ : ∃ m, x / 2 ^ r = m := ⟨_, rfl⟩
  rw [hm] at h1 ⊢
  show IntKind.u32.wrap ((BitVec.ofInt 32 (m : Int) &&& BitVec.ofInt 32 1).toNat : Int) = _
  have e1 : (BitVec.ofInt 32 1).toNat = 1 := by decide
  have e2 : (BitVec.ofInt 32 (m : Int)).toNat = m := by
    rw [BitVec.ofInt_natCast, BitVec.toNat_ofNat]; exact Nat.mod_eq_of_lt (by omega)
  rw [BitVec.toNat_and, e1, e2, Nat.and_one_is_mod, IntKind.wrap_u32]
  omega
set_option maxHeartbeats 1000000 in
theorem rshr_low (A : Option Addr) (n c : Nat) (p : Int) (l : List Nat) (w : World) (hn : l.length = n) (hc : n ≤ c) (hm : n ≤ 35184372087808) (h : RW w w.heap.size A l) (hp : p ≤ 0) :
    Calls Tryd.prog 66 #[.slice A n c, .int .i64 p] w (ShrQ (val l) 0 w) := by
  have c1 := (rnorm_any A n c l w.heap.size w hn hc (by omega) h).mono (fun e w' x => SlPost.of h.1.nrm x)
  rw [nrm_wds h.1] at c1
  clear hn hc hm h
  go_enter Tryd.func66, Tryd.ntmps66
  go_wp2_with fail
  refine c1.mono ?_
  rintro e w1 ⟨v1, rfl, ⟨A1, d1, rfl, hd, hr⟩, hb⟩
  have HD := Lib.hid hd
  have HR := Lib.hid hr
  have HB := Lib.hid hb
  clear hd hr hb
  go_wp2
  go_ret2
  exact ShrQ.same rfl HD.out HR.out HB.out
set_option maxHeartbeats 1000000 in
theorem rshr_far (A : Option Addr) (n c p : Nat) (l : List Nat) (w : World) (hn : l.length = n) (hc : n ≤ c) (hm : n ≤ 35184372087808) (h : RW w w.heap.size A l) (hp : 0 < p) (hf : 32 * (nrm l).length ≤ p) :
    Calls Tryd.prog 66 #[.slice A n c, .int .i64 p] w (ShrQ (val l) p w) := by
  have c1 := (rnorm_any A n c l w.heap.size w hn hc (by omega) h).mono (fun e w' x => SlPost.of h.1.nrm x)
  have hle := nrm_len l
  have HV := Lib.hid (show val l < 2 ^ p by
    have := val_lt h.1.nrm
    rw [val_nrm, pow32] at this
    exact Nat.lt_of_lt_of_le this (Nat.pow_le_pow_right (by omega) hf))
  have hz : (val l ≠ 0) ↔ 0 < (nrm l).length := by
    constructor
    · intro a
      refine List.length_pos_iff.2 fun e => a ?_
      rw [← val_nrm l, e]; rfl
    · intro a e
      rw [nrm_val_zero e] at a
      exact absurd a (by simp)
  obtain ⟨N, hN⟩ : ∃ N, (nrm l).length = N := ⟨_, rfl⟩
  rw [hN] at hle hz hf
  have HZ := Lib.hid hz
  have HN := Lib.hid hN
  have hp1 : ¬ (p : Int) ≤ 0 := by omega
  have hf1 : 32 * (N : Int) ≤ (p : Int) := by omega
  have k1 : IntKind.i64.wrap (32 * (N : Int)) = 32 * (N : Int) := IntWalk.i64_in _ (by omega)
  clear hn hc hm h hle hN hz hp hf
  go_enter Tryd.func66, Tryd.ntmps66
  go_wp2_with fail
  refine c1.mono ?_
  rintro e w1 ⟨v1, rfl, ⟨A1, d1, rfl, _, _⟩, hb⟩
  rw [HN.out]
  have HB := Lib.hid hb
  clear hb
  go_wp2
  go_ret2
  exact ShrQ.none HV.out (decide_eq_decide.2 HZ.out.symm) HB.out
set_option maxRecDepth 100000 in
set_option maxHeartbeats 2000000 in
theorem rshr_mid (A : Option Addr) (n c p o s : Nat) (l : List Nat) (w : World) (hn : l.length = n) (hc : n ≤ c) (hm : n ≤ 35184372087808) (h : RW w w.heap.size A l) (hp : 0 < p) (hf : p < 32 * (nrm l).length) (hpo : p = 32 * o + s) (hs : s < 32) :
    Calls Tryd.prog 66 #[.slice A n c, .int .i64 p] w (ShrQ (val l) p w) := by
  obtain ⟨i0, hi, hz0, hz1, hz2⟩ := info_parts infoW
  have c1 := (rnorm_any A n c l w.heap.size w hn hc (by omega) h).mono (fun e w' x => SlPost.of h.1.nrm x)
  have hle := nrm_len l
  rw [← val_nrm l]
  have hws := h.1.nrm
  obtain ⟨a, ha⟩ : ∃ a, nrm l = a := ⟨_, rfl⟩
  rw [ha] at c1 hle hf hws ⊢
  obtain ⟨N, hN⟩ : ∃ N, a.length = N := ⟨_, rfl⟩
  rw [hN] at hle hf
  have HN := Lib.hid hN
  have HWS := Lib.hid hws
  have HPO := Lib.hid hpo
  have HS := Lib.hid hs
  have HON := Lib.hid (show o < N by omega)
  have hp1 : decide ((p : Int) ≤ 0) = false := decide_eq_false (by omega)
  have hp2 : decide (p = 0) = false := decide_eq_false (by omega)
  have hf1 : ¬ 32 * (N : Int) ≤ (p : Int) := by omega
  have hN1 : (N : Int) ≤ 35184372087808 := by omega
  have k1 : IntKind.i64.wrap (32 * (N : Int)) = 32 * (N : Int) := IntWalk.i64_in _ (by omega)
  have hpN : (p : Int) < 32 * (N : Int) := by omega
  have HD := Lib.hid (show p / 32 = o ∧ p % 32 = s by omega)
  clear hn hc hm h hle hN hf hpo hs hws ha hp
  go_enter Tryd.func66, Tryd.ntmps66
  go_wp2_with fail
  refine c1.mono ?_
  rintro e w1 ⟨v1, rfl, ⟨A1, d1, rfl, hd1, hr1⟩, b1⟩
  rw [HN.out] at hd1 ⊢
  obtain ⟨b, off, rfl, hb, hcell⟩ := hr1.2 (by rw [HN.out]; have := HON.out; omega)
  have HCELL := Lib.hid hcell
  have HR1 := Lib.hid hr1
  have HB1 := Lib.hid b1
  clear hcell hr1 b1 c1 hd1
  go_wp2
  go_loopw [6, 7] (fun lv i wr => ∃ (k : Nat), lv = .bool (decide (val a % 2 ^ k ≠ 0)) ∧ i = .int .i64 k ∧ k ≤ p ∧ w1 = wr) (fun _ i _ => p - (intOf i).toNat)
  case atStart => exact ⟨0, by simp [Nat.mod_one], rfl, Nat.zero_le _, rfl⟩
  case round =>
    obtain ⟨k, rfl, rfl, hk, rfl⟩ := hrel
    by_cases hlt : k < p
    · obtain ⟨j, r, hjr, hr32⟩ : ∃ j r, k = 32 * j + r ∧ r < 32 := ⟨k / 32, k % 32, by omega, by omega⟩
      have hjN : j < N := by omega
      have hcl := HCELL.out j _ (getD_some (by rw [HN.out]; exact hjN))
      have hxl := HWS.out.getD j
      have HNX := Lib.hid (bit_next (val a) k)
      have hbw := bit_word HWS.out j r (by rw [HN.out]; omega) hr32
      rw [← hjr] at hbw
      obtain ⟨x, hx⟩ : ∃ x, a.getD j 0 = x := ⟨_, rfl⟩
      rw [hx] at hcl hxl hbw
      have hba := bit_and x r hxl
      rw [← hbw] at hba
      have hkk : (k : Int) < (p : Int) := by omega
      have e3 : (k : Int) / 32 = (j : Int) := by omega
      have e4 : (k : Int) % 32 = (r : Int) := by omega
      have hj1 : (j : Int) < (N : Int) := by omega
      have hr0 : (0 : Int) ≤ (r : Int) := by omega
      have hp63 : (p : Int) < 9223372036854775807 := by omega
      cases hlost : decide (val a % 2 ^ k ≠ 0)
      · cases hbit : decide (val a / 2 ^ k % 2 = 1)
        · have hT : (bits BinOp.and IntKind.u32 ((x : Int) / 2 ^ r) 1 == 1) = false := by
            rw [hba]; have h := of_decide_eq_false hbit; generalize val a / 2 ^ k % 2 = z at h ⊢; simp; omega
          rw [hlost, hbit] at HNX
          clear hbw hba hx hxl hjr hr32 hbit hlost hjN hk
          go_wp2
          go_roundw
          case rel => exact ⟨k + 1, by rw [HNX.out]; rfl, by go_num, by omega, trivial⟩
          case measure => simp [intOf]; omega
        · have hT : (bits BinOp.and IntKind.u32 ((x : Int) / 2 ^ r) 1 == 1) = true := by
            rw [hba]; have h := of_decide_eq_true hbit; rw [h]; rfl
          rw [hlost, hbit] at HNX
          clear hbw hba hx hxl hjr hr32 hbit hlost hjN hk
          go_wp2
          go_roundw
          case rel => exact ⟨k + 1, by rw [HNX.out]; rfl, by go_num, by omega, trivial⟩
          case measure => simp [intOf]; omega
      · rw [hlost, Bool.true_or] at HNX
        clear hbw hba hx hxl hjr hr32 hlost hjN hk
        go_wp2
        go_roundw
        case rel => exact ⟨k + 1, by rw [HNX.out], by go_num, by omega, trivial⟩
        case measure => simp [intOf]; omega
    · have hkp : k = p := by omega
      subst hkp
      obtain ⟨lo, hlo⟩ : ∃ lo, decide (val a % 2 ^ k ≠ 0) = lo := ⟨_, rfl⟩
      rw [hlo]
      have HLO := Lib.hid hlo
      have e3 : (k : Int) / 32 = (o : Int) := by have := HD.out; omega
      have e4 : (k : Int) % 32 = (s : Int) := by have := HD.out; omega
      have hs0 : (0 : Int) ≤ (s : Int) := by omega
      have hoN1 : (o : Int) < (N : Int) := by have := HON.out; omega
      have C1 := Lib.hid (fun W (hb : Below w1.heap.size w1 W) i => rword_any (some ⟨b, off, none⟩) N d1 i a w1.heap.size W HN.out (by omega) (HR1.out.below hb))
      have HSTART := Lib.hid (RsT.start (a.drop o) s)
      clear hlo hlt hk
      go_wp2
      go_loopw [8, 9] (fun v i wr => ∃ (m : Nat) (S : List Nat), i = .int .i64 m ∧ o ≤ m ∧ m ≤ N ∧ Hid (OwnW w1.heap.size S v wr) ∧ Hid (RsT (a.drop o) s (m - o) S) ∧ Below w1.heap.size w1 wr) (fun _ i _ => N - (intOf i).toNat)
      case atStart => exact ⟨o, [], rfl, Nat.le_refl _, by omega, Lib.hid (OwnW.nil _ _), by rw [Nat.sub_self]; exact HSTART, Below.refl _ _⟩
      case round =>
        obtain ⟨m, S, rfl, hom, hmN, HO, HT, hbw⟩ := hrel
        by_cases hlt : m < N
        · have HSL := Lib.hid (show (S.length + 1) * 4 ≤ 140737488355328 ∧ S.length + 1 ≤ maxLen by have := HT.out.len; unfold maxLen; omega)
          have D1 := Lib.hid (C1.out wr hbw m)
          have D2 := Lib.hid (C1.out wr hbw (m + 1))
          have HNX := Lib.hid (HT.out.next (HWS.out.drop o) (by have := HS.out; omega))
          have HW := Lib.hid (show shrW (a.drop o) s (m - o) = a.getD (m + 1) 0 * 2 ^ (32 - s) % 4294967296 + a.getD m 0 / 2 ^ s by
            unfold shrW; rw [getD_drop, getD_drop, show o + (m - o + 1) = m + 1 by omega, show o + (m - o) = m by omega])
          have hxl := HWS.out.getD m
          have hyl := HWS.out.getD (m + 1)
          obtain ⟨x, hx⟩ : ∃ x, a.getD m 0 = x := ⟨_, rfl⟩
          obtain ⟨y, hy⟩ : ∃ y, a.getD (m + 1) 0 = y := ⟨_, rfl⟩
          rw [hx] at D1 HW hxl
          rw [hy] at D2 HW hyl
          rw [show ((m + 1 : Nat) : Int) = (m : Int) + 1 by omega] at D2
          obtain ⟨f1, f2⟩ := word_pair x y s hxl HS.out
          obtain ⟨u, hu⟩ : ∃ u, y * 4294967296 = u := ⟨_, rfl⟩
          have k2 : IntKind.u64.wrap ((y : Int) * 4294967296) = (u : Int) := by rw [IntWalk.u64_in _ (by omega)]; omega
          obtain ⟨t, ht⟩ : ∃ t, x + u = t := ⟨_, rfl⟩
          rw [hu, ht] at f1 f2
          have k3 : bits BinOp.or IntKind.u64 (x : Int) (u : Int) = (t : Int) := by rw [or_u64 x u (by omega) (by omega), f1]
          obtain ⟨z, hz⟩ : ∃ z, t / 2 ^ s = z := ⟨_, rfl⟩
          have k4 : ((t : Int) / 2 ^ s) = (z : Int) := by rw [← hz, Int.natCast_ediv, Int.natCast_pow]; rfl
          rw [hz] at f2
          have ew : shrW (a.drop o) s (m - o) = z % 4294967296 := by rw [HW.out, f2]
          rw [ew, show m - o + 1 = m + 1 - o by omega] at HNX
          have hmm : (m : Int) < (N : Int) := by omega
          clear hx hy hxl hyl f1 f2 hu ht hz ew HW C1
          go_wp2_with fail
          refine D1.out.mono ?_
          rintro e w2 ⟨rfl, rfl⟩
          go_wp2_with fail
          refine D2.out.mono ?_
          rintro e w2 ⟨rfl, rfl⟩
          go_wp2_with (at_builtin; refine wpList_append_own _ rfl _ _ 22 rfl w1.heap.size 42 i0 (.int .u32 0) 1 4 Tryd.underlying22 hi hz0 hz1 hz2 rfl (by decide) _ _ _ rfl (World.ownsRow.alloc (w := wr) HO.out _) ⟨wr.heap.size, 0, none⟩ 1 1 [.int .u32 ((z % 4294967296 : Nat) : Int)] rfl rfl ?c1 ?c2 ?c3 ?c4 ?c5 ?_)
          case c1 => exact (cell_one_new _ _ _)
          case c2 => simp [Value.oneCell']
          case c3 => exact HSL.out.2
          case c4 => exact HSL.out.1
          case c5 => have := hbw.size; simp; omega
          intro v' w2 hown hg _
          have HO2 := Lib.hid (OwnW.snoc hown)
          have hbb : Below w1.heap.size w1 w2 := (hbw.alloc hbw.size _).grown hg (by have := hbw.size; simp; omega) (fun j hj => (World.ownsRow.lt HO.out j hj).1)
          clear hown hg
          go_wp2
          go_roundw
          case rel => exact ⟨m + 1, _, by go_num, by omega, by omega, HO2, HNX, hbb⟩
          case measure => simp [intOf]; omega
        · have hmN2 : m = N := by omega
          subst hmN2
          have HT2 := Lib.hid (show RsT (a.drop o) s (a.drop o).length S by rw [List.length_drop, HN.out]; exact HT.out)
          have hv := HT2.out.whole
          have HE2 := Lib.hid (show nrm S = wds (val a / 2 ^ k) by rw [nrm_wds HT2.out.ws, hv, HPO.out, drop_div HWS.out o s (by rw [HN.out]; exact hom)])
          have hSL := HT.out.len
          obtain ⟨A2, c2, hv2, hcc, hr2⟩ := HO.out.sl HT.out.ws
          obtain ⟨N2, hN2⟩ : ∃ N2, S.length = N2 := ⟨_, rfl⟩
          have C3 := Lib.hid (rnorm_any A2 N2 c2 S wr.heap.size wr hN2 (by rw [← hN2]; exact hcc) (by omega) hr2)
          rw [hN2] at hv2
          clear hr2 hcc hN2 hv hSL hlt hmN
          subst hv2
          go_wp2_with fail
          refine C3.out.mono ?_
          rintro e w3 ⟨v3, rfl, ho3, hb3⟩
          rw [HE2.out] at ho3
          obtain ⟨A3, c3, rfl, hc3, hr3⟩ := ho3.sl (wds_ws _)
          have HR3 := Lib.hid hr3
          have HC3 := Lib.hid hc3
          have HB3 := Lib.hid (below_le HB1.out (below_le hbw hb3))
          clear ho3 C3 hr3 hc3 hb3
          go_wp2
          go_ret2
          exact ⟨A3, _, c3, by rw [HLO.out]; rfl, rfl, HC3.out, HR3.out, HB3.out⟩
theorem rshr_any (A : Option Addr) (n c : Nat) (p : Int) (l : List Nat) (w : World) (hn : l.length = n) (hc : n ≤ c) (hm : n ≤ 35184372087808) (h : RW w w.heap.size A l) :
    Calls Tryd.prog 66 #[.slice A n c, .int .i64 p] w (ShrQ (val l) p.toNat w) := by
  by_cases hp : p ≤ 0
  · rw [show p.toNat = 0 by omega]
    exact rshr_low A n c p l w hn hc hm h hp
  · obtain ⟨q, rfl⟩ : ∃ q : Nat, p = (q : Int) := ⟨p.toNat, by omega⟩
    rw [Int.toNat_natCast]
    by_cases hf : 32 * (nrm l).length ≤ q
    · exact rshr_far A n c q l w hn hc hm h (by omega) hf
    · exact rshr_mid A n c q (q / 32) (q % 32) l w hn hc hm h (by omega) (by omega) (by omega) (by omega)
theorem pshr_any (A : Option Addr) (n c : Nat) (p : Int) (l : List Nat) (w : World) (hn : l.length = n) (hc : n ≤ c) (hm : n ≤ 35184372087808) (h : RW w w.heap.size A l) :
    Calls Tryd.prog 45 #[.slice A n c, .int .i64 p] w (ShrQ (val l) p.toNat w) := by
  by_cases hp : p ≤ 0
  · rw [show p.toNat = 0 by omega]
    exact pshr_low A n c p l w hn hc hm h hp
  · obtain ⟨q, rfl⟩ : ∃ q : Nat, p = (q : Int) := ⟨p.toNat, by omega⟩
    rw [Int.toNat_natCast]
    by_cases hf : btl (nrm l) ≤ q
    · exact pshr_far A n c q l w hn hc hm h (by omega) hf
    · exact pshr_mid A n c q (q / 32) (q % 32) l w hn hc hm h (by omega) (by omega) (by omega) (by omega)
end Go.Proofs.YtlabblkonkhmgaaDoor
