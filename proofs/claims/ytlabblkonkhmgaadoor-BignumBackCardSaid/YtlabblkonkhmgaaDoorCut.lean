/-
  Contracts of cut, and of the two functions that tell a word.
-/
import Derived.Test.YtlabblkonkhmgaaDoorMem
namespace Go.Proofs.YtlabblkonkhmgaaDoor
open Go.RowKit
theorem cut_none (A : Option Addr) (c : Nat) (w : World) : Calls Tryd.prog 24 #[.slice A 0 c] w fun e w' => e = .returned (.slice A 0 0) ∧ w = w' := by
  go_enter Tryd.func24, Tryd.ntmps24
  go_wp2
  go_loop [3] (fun i => i = .int .i64 0) (fun _ => 0)
  case atStart => exact rfl
  case round =>
    obtain rfl := hrel
    go_wp2
    go_ret
    exact ⟨rfl, rfl⟩
set_option maxHeartbeats 1000000 in
theorem cut_some (b off n c : Nat) (l : List Nat) (w : World) (hn : l.length = n) (hc : n ≤ c) (hm : n ≤ 35184372088832) (h : ∀ k u : Nat, l[k]? = some u → w.cell? ⟨b, off + k, none⟩ = some (.int .u32 (u : Int))) :
    Calls Tryd.prog 24 #[.slice (some ⟨b, off, none⟩) n c] w fun e w' => e = .returned (.slice (some ⟨b, off, none⟩) (nrm l).length (nrm l).length) ∧ w = w' := by
  have HN := Lib.hid hn
  have HC := Lib.hid h
  have hm1 : (n : Int) ≤ 35184372088832 := by omega
  have hc1 : (n : Int) ≤ (c : Int) := by omega
  clear hn h
  go_enter Tryd.func24, Tryd.ntmps24
  go_wp2
  go_loop [3] (fun i => ∃ k : Nat, i = .int .i64 k ∧ k ≤ n ∧ Hid (∀ j, k ≤ j → j < l.length → l.getD j 0 = 0)) (fun i => (intOf i).toNat)
  case atStart => exact ⟨n, rfl, Nat.le_refl _, Lib.hid (fun j h1 h2 => by have := HN.out; omega)⟩
  case round =>
    obtain ⟨k, rfl, hk, HZ⟩ := hrel
    by_cases h0 : k = 0
    · have HE := Lib.hid (show (nrm l).length = k by rw [nrm_of l k (by have := HN.out; omega) HZ.out (.inl h0), List.length_take]; omega)
      subst h0
      go_wp2
      go_ret
      rw [HE.out]
      exact ⟨rfl, rfl⟩
    · obtain ⟨j, rfl⟩ : ∃ j, k = j + 1 := ⟨k - 1, by omega⟩
      have hj : j < l.length := by have := HN.out; omega
      have hcell := HC.out j _ (getD_some hj)
      have h1 : (j : Int) < (n : Int) := by omega
      by_cases hz : l.getD j 0 = 0
      · rw [hz] at hcell
        have HZ2 := Lib.hid (show ∀ i, j ≤ i → i < l.length → l.getD i 0 = 0 from fun i h2 h3 => by
          by_cases h4 : i = j
          · rw [h4]; exact hz
          · exact HZ.out i (by omega) h3)
        clear hz hj
        go_wp2
        go_round
        case rel => exact ⟨j, by go_num, by omega, HZ2⟩
        case measure => simp [intOf]
      · have HE := Lib.hid (show (nrm l).length = j + 1 by rw [nrm_of l (j + 1) (by omega) HZ.out (.inr (by simpa using hz)), List.length_take]; omega)
        obtain ⟨u, hu⟩ : ∃ u, l.getD j 0 = u := ⟨_, rfl⟩
        rw [hu] at hcell hz
        have hz' : ((u : Int) == 0) = false := by simp; omega
        have hjc : (j : Int) + 1 ≤ (c : Int) := by omega
        clear hu hj
        go_wp2
        go_ret
        rw [HE.out]
        exact ⟨rfl, rfl⟩
theorem cut_any (A : Option Addr) (n c : Nat) (l : List Nat) (B : Nat) (w : World) (hn : l.length = n) (hc : n ≤ c) (hm : n ≤ 35184372088832) (h : RW w B A l) :
    Calls Tryd.prog 24 #[.slice A n c] w fun e w' => e = .returned (.slice A (nrm l).length (nrm l).length) ∧ w = w' := by
  rcases Nat.eq_zero_or_pos n with h0 | h0
  · subst h0
    obtain rfl : l = [] := List.eq_nil_of_length_eq_zero hn
    exact cut_none A c w
  · obtain ⟨b, off, rfl, _, hcell⟩ := h.2 (by omega)
    exact cut_some b off n c l w hn hc hm hcell
theorem RW.nrm {w : World} {B : Nat} {A : Option Addr} {l : List Nat} (h : RW w B A l) : RW w B A (nrm l) := by rw [nrm_take]; exact h.take _
end Go.Proofs.YtlabblkonkhmgaaDoor
