/-
  Contracts of slices.Reverse over bytes and of strings.TrimLeft of noughts.
-/
import Derived.BigRegion
import Derived.Test.YtlabblkonkhmgaaDoorBytes
namespace Go.Proofs.YtlabblkonkhmgaaDoor
open Go.RowKit
/-- Ends exchanged, k of them. -/
def rvF (N k : Nat) (l : List Nat) (x : Nat) : Nat := if x < k ∨ N < x + 1 + k then l.getD (N - 1 - x) 0 else l.getD x 0
/-- The list l of N, k of whose ends are exchanged. -/
structure RvT (l : List Nat) (N k : Nat) (S : List Nat) : Prop where
  len : S.length = N
  at_ : ∀ j, j < N → S.getD j 0 = rvF N k l j
theorem RvT.start {l : List Nat} {N : Nat} (h : l.length = N) : RvT l N 0 l := ⟨h, fun j hj => by unfold rvF; rw [if_neg (by omega)]⟩
theorem RvT.next {l : List Nat} {N k m : Nat} {S : List Nat} (h : RvT l N k S) (hm : m = N - 1 - k) (hk : k < m) :
    S.getD k 0 = l.getD k 0 ∧ S.getD m 0 = l.getD m 0 ∧ RvT l N (k + 1) ((S.set k (l.getD m 0)).set m (l.getD k 0)) := by
  have hl := h.len
  refine ⟨by rw [h.at_ k (by omega)]; unfold rvF; rw [if_neg (by omega)], by rw [h.at_ m (by omega)]; unfold rvF; rw [if_neg (by omega)], by simp [hl], fun j hj => ?_⟩
  by_cases h1 : j = m
  · subst h1
    rw [getD_set_eq (by simp; omega)]
    unfold rvF; rw [if_pos (by omega), show N - 1 - j = k by omega]
  · rw [getD_set_ne (by omega)]
    by_cases h2 : j = k
    · subst h2
      rw [getD_set_eq (by omega)]
      unfold rvF; rw [if_pos (by omega), ← hm]
    · rw [getD_set_ne (by omega), h.at_ j hj]
      unfold rvF
      by_cases h3 : j < k ∨ N < j + 1 + k
      · rw [if_pos h3, if_pos (by omega)]
      · rw [if_neg h3, if_neg (by omega)]
theorem RvT.fin {l : List Nat} {N k : Nat} {S : List Nat} (h : RvT l N k S) (hl : l.length = N) (hk : ¬ 2 * k + 1 < N) : S = l.reverse := by
  apply List.ext_getElem?
  intro j
  by_cases hj : j < N
  · have h1 := h.at_ j hj
    have e1 : rvF N k l j = l.getD (N - 1 - j) 0 := by
      unfold rvF
      by_cases h3 : j < k ∨ N < j + 1 + k
      · rw [if_pos h3]
      · rw [if_neg h3, show N - 1 - j = j by omega]
    rw [e1] at h1
    rw [getD_some (by rw [h.len]; exact hj), h1, List.getElem?_reverse (by omega), hl]
    rw [getD_some (by omega)]
  · rw [List.getElem?_eq_none (by rw [h.len]; omega), List.getElem?_eq_none (by rw [List.length_reverse]; omega)]
set_option maxRecDepth 100000 in
set_option maxHeartbeats 2000000 in
theorem rev8_any (B g N c : Nat) (l : List Nat) (w : World) (hN : N ≤ 4611686018427387903) (hl : l.length = N) (hB : B ≤ g) (h : Own8 B l (.slice (some ⟨g, 0, none⟩) N c) w) :
    Calls Tryd.prog 25 #[.slice (some ⟨g, 0, none⟩) N c] w fun e w' => e = .returned (.tuple #[]) ∧ Own8 B l.reverse (.slice (some ⟨g, 0, none⟩) N c) w' ∧ Below B w w' := by
  have HR0 := Lib.hid h
  have HST := Lib.hid (RvT.start hl)
  have HL := Lib.hid hl
  have hN1 : (N : Int) ≤ 4611686018427387903 := by omega
  clear h hl hN
  go_enter Tryd.func25, Tryd.ntmps25
  go_wp2
  go_loopw [2, 3] (fun i j wr => ∃ (k : Nat) (S : List Nat), i = .int .i64 k ∧ j = .int .i64 ((N : Int) - 1 - k) ∧ 2 * k ≤ N + 1 ∧ Hid (Own8 B S (.slice (some ⟨g, 0, none⟩) N c) wr) ∧ Hid (RvT l N k S) ∧ Below B w wr) (fun i _ _ => N - (intOf i).toNat)
  case atStart => exact ⟨0, l, rfl, by go_num, by omega, HR0, HST, Below.refl _ _⟩
  case round =>
    obtain ⟨k, S, rfl, rfl, hk, HI, HT, hbw⟩ := hrel
    by_cases hlt : 2 * k + 1 < N
    · obtain ⟨m, hm⟩ : ∃ m, N - 1 - k = m := ⟨_, rfl⟩
      have hmi : (N : Int) - 1 - k = (m : Nat) := by omega
      have hkm : k < m := by omega
      obtain ⟨e1, e2, hnx⟩ := HT.out.next hm.symm hkm
      have hSl := HT.out.len
      obtain ⟨k1, f1⟩ := HI.out.cell k (by omega)
      obtain ⟨k2, f2⟩ := HI.out.cell m (by omega)
      rw [e1] at k1
      rw [e2] at k2
      obtain ⟨x, hx⟩ : ∃ x, l.getD k 0 = x := ⟨_, rfl⟩
      obtain ⟨y, hy⟩ : ∃ y, l.getD m 0 = y := ⟨_, rfl⟩
      rw [hx] at k1 hnx
      rw [hy] at k2 hnx
      have HI2 := Lib.hid ((HI.out.set k y).set m x)
      have HNX := Lib.hid hnx
      have a1 : (k : Int) < (m : Nat) := by omega
      have a2 : (m : Int) < (N : Nat) := by omega
      have a3 : (k : Int) < (N : Nat) := by omega
      have HKM := Lib.hid (show (N : Int) - 1 - k = (m : Nat) ∧ m + k + 1 = N from ⟨hmi, by omega⟩)
      rw [hmi]
      clear hm hmi e1 e2 hnx hSl hx hy hlt hk
      go_wp2
      go_region
      go_wp2
      go_roundw
      case rel => exact ⟨k + 1, _, by go_num, by have := HKM.out; go_num, by have := HKM.out.2; omega, Lib.hid HI2.out.drew, HNX, ((hbw.setCell (p := ⟨g, k, none⟩) hB _).setCell (p := ⟨g, m, none⟩) hB _).drew⟩
      case measure => simp [intOf]; omega
    · have HZ := Lib.hid (HT.out.fin HL.out hlt)
      have a1 : ¬ (k : Int) < (N : Int) - 1 - k := by omega
      clear hlt
      go_wp2
      go_end0
      exact ⟨rfl, by rw [← HZ.out]; exact HI.out, hbw⟩
end Go.Proofs.YtlabblkonkhmgaaDoor
