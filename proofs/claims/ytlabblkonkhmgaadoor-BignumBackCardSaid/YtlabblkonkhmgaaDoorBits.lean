/-
  Contracts of Bits of the program and of the reference, and of the two orders of cmp.
-/
import Derived.Test.YtlabblkonkhmgaaDoorWord
import Derived.Test.YtlabblkonkhmgaaDoorShelf
import Derived.Lib.BitFns
namespace Go.Proofs.YtlabblkonkhmgaaDoor
open Go.RowKit
/-- How many bits a list of words has. -/
def btl (l : List Nat) : Nat := if nrm l = [] then 0 else 32 * ((nrm l).length - 1) + Lib.bitLen (l.getD ((nrm l).length - 1) 0)
theorem bitLen_zero : Lib.bitLen 0 = 0 := by decide
theorem bitLen_le32 (x : Nat) (h : x < 4294967296) : Lib.bitLen x ≤ 32 := Lib.bitLen_le x 32 (by omega) h
set_option maxHeartbeats 1000000 in
theorem bits_any (A : Option Addr) (n c : Nat) (l : List Nat) (B : Nat) (w : World) (hn : l.length = n) (hc : n ≤ c) (hm : n ≤ 35184372088832) (h : RW w B A l) :
    Calls Tryd.prog 43 #[.slice A n c] w fun e w' => e = .returned (.int .i64 (btl l : Nat)) ∧ w = w' := by
  have c1 := cut_any A n c l B w hn hc hm h
  by_cases h0 : nrm l = []
  · rw [h0] at c1
    have e : btl l = 0 := by unfold btl; rw [if_pos h0]
    rw [e]
    clear hn hc hm h h0 e
    go_enter Tryd.func43, Tryd.ntmps43
    go_wp2_with (go_at_call 24; refine c1.mono ?_; rintro e w' ⟨rfl, rfl⟩)
    go_ret
    exact ⟨rfl, rfl⟩
  · have hle := nrm_len l
    have hp : 0 < (nrm l).length := List.length_pos_iff.2 h0
    have hx := h.1.getD ((nrm l).length - 1)
    have e : btl l = 32 * ((nrm l).length - 1) + Lib.bitLen (l.getD ((nrm l).length - 1) 0) := by unfold btl; rw [if_neg h0]
    obtain ⟨b, off, rfl, _, hcell⟩ := h.2 (by omega)
    obtain ⟨m, hm0⟩ : ∃ m, (nrm l).length = m + 1 := ⟨(nrm l).length - 1, by omega⟩
    have hcl := hcell m _ (getD_some (by omega))
    rw [hm0, Nat.add_sub_cancel] at e hx
    rw [hm0] at c1
    obtain ⟨u, hu⟩ : ∃ u, l.getD m 0 = u := ⟨_, rfl⟩
    rw [hu] at hcl hx e
    have hb := bitLen_le32 u hx
    have h1 : (m : Int) ≤ 35184372088832 := by omega
    have c2 := fun W => Tryd.bits_Len32 (u : Int) W (by omega) (by omega)
    rw [Int.toNat_natCast] at c2
    have HE := Lib.hid e
    have hb1 : ((Lib.bitLen u : Nat) : Int) ≤ 32 := by omega
    clear hn hc hm h h0 e hle hp hx hcell hu hm0 hb
    go_enter Tryd.func43, Tryd.ntmps43
    go_wp2_with (first | (go_at_call 24; refine c1.mono ?_; rintro e w' ⟨rfl, rfl⟩) | (go_at_call 59; refine (c2 _).mono ?_; rintro e w' ⟨rfl, rfl⟩))
    go_ret
    exact ⟨ret_i64 (by rw [HE.out]; omega), rfl⟩
set_option maxHeartbeats 2000000 in
theorem rbits_any (A : Option Addr) (n c : Nat) (l : List Nat) (B : Nat) (w : World) (hn : l.length = n) (hc : n ≤ c) (hm : n ≤ 35184372088832) (h : RW w B A l) :
    Calls Tryd.prog 65 #[.slice A n c] w fun e w' => e = .returned (.int .i64 (btl l : Nat)) ∧ Below w.heap.size w w' := by
  have c1 := (rnorm_any A n c l B w hn hc hm h).mono (fun e w' x => SlPost.of h.1.nrm x)
  by_cases h0 : nrm l = []
  · rw [h0] at c1
    have e : btl l = 0 := by unfold btl; rw [if_pos h0]
    rw [e]
    clear hn hc hm h h0 e
    go_enter Tryd.func65, Tryd.ntmps65
    go_wp2_with fail
    refine c1.mono ?_
    rintro e w' ⟨v, rfl, ⟨A2, c2, rfl, _, _⟩, hb⟩
    go_wp2
    go_ret
    exact ⟨rfl, hb⟩
  · have hle := nrm_len l
    have hp : 0 < (nrm l).length := List.length_pos_iff.2 h0
    have hx := h.1.getD ((nrm l).length - 1)
    have e : btl l = 32 * ((nrm l).length - 1) + Lib.bitLen (l.getD ((nrm l).length - 1) 0) := by unfold btl; rw [if_neg h0]
    obtain ⟨m, hm0⟩ : ∃ m, (nrm l).length = m + 1 := ⟨(nrm l).length - 1, by omega⟩
    have hg : (nrm l).getD m 0 = l.getD m 0 := by
      rw [nrm_take l, List.getD_eq_getElem?_getD, List.getD_eq_getElem?_getD, List.getElem?_take, if_pos (by omega)]
    rw [hm0, Nat.add_sub_cancel] at e hx
    have h1 : (m : Int) ≤ 35184372088832 := by omega
    have HM := Lib.hid hm0
    have HG := Lib.hid hg
    have HE := Lib.hid e
    obtain ⟨u, hu⟩ : ∃ u, l.getD m 0 = u := ⟨_, rfl⟩
    have HU := Lib.hid hu
    rw [hu] at hx
    have HX := Lib.hid hx
    clear hn hc hm h h0 e hle hp hm0 hg hu hx
    go_enter Tryd.func65, Tryd.ntmps65
    go_wp2_with fail
    refine c1.mono ?_
    rintro e w' ⟨v, rfl, ⟨A2, c2, rfl, _, hr⟩, hb⟩
    obtain ⟨b, off, rfl, _, hcell⟩ := hr.2 (by rw [HM.out]; omega)
    have hcl := hcell m _ (getD_some (by rw [HM.out]; omega))
    rw [HG.out, HU.out] at hcl
    rw [HM.out]
    clear hcell hr c1
    go_wp2
    go_loop [4, 5] (fun i t => ∃ k x : Nat, i = .int .i64 ((k : Nat) : Int) ∧ t = .int .u32 (x : Nat) ∧ Hid (x < 4294967296) ∧ k ≤ 32 * m + 32 ∧ Hid (k + Lib.bitLen x = 32 * m + Lib.bitLen u)) (fun _ t => (intOf t).toNat)
    case atStart => exact ⟨32 * m, u, by go_num, rfl, HX, by omega, Lib.hid rfl⟩
    case round =>
      obtain ⟨k, x, rfl, rfl, hx32, hk, HK⟩ := hrel
      by_cases h0 : x = 0
      · have HZ := Lib.hid (show k = btl l by have := HK.out; rw [h0, bitLen_zero] at this; rw [HE.out, HU.out]; omega)
        subst h0
        go_wp2
        go_ret
        exact ⟨ret_i64 (by rw [HZ.out]), hb⟩
      · have h2 : (0 : Int) < (x : Int) := by omega
        have HK2 := Lib.hid (show k + 1 + Lib.bitLen (x / 2) = 32 * m + Lib.bitLen u by
          have := HK.out
          rw [Lib.bitLen_half x h0 (by have := hx32.out; omega)] at this
          omega)
        have hk1 : k + 1 ≤ 32 * m + 32 := by have := HK2.out; have := bitLen_le32 u HX.out; omega
        have HX2 := Lib.hid (show x / 2 < 4294967296 by have := hx32.out; omega)
        have hk2 : (k : Int) ≤ 1125899906842656 := by omega
        clear h0
        go_wp2
        go_round
        case rel => exact ⟨k + 1, x / 2, by go_num, by go_num, HX2, hk1, HK2⟩
        case measure => simp [intOf]; omega
end Go.Proofs.YtlabblkonkhmgaaDoor
