/-
  Plain lemmas: how long a number times a power of 2 is.
-/
import Derived.Test.YtlabblkonkhmgaaDoorShr
import Derived.Lib.ItoaNum
namespace Go.Proofs.YtlabblkonkhmgaaDoor
theorem pow32 (m : Nat) : 4294967296 ^ m = 2 ^ (32 * m) := by rw [Nat.pow_mul]
theorem btl_sums {B P v t u L : Nat} (e : v = t + B * u) (h1 : t < B) (h2 : P ≤ u) (h3 : u < L) : B * P ≤ v ∧ v < B * L := by
  have a := Nat.mul_le_mul_left B h2
  have b : B * (u + 1) ≤ B * L := Nat.mul_le_mul_left B h3
  rw [Nat.mul_add, Nat.mul_one] at b
  omega
theorem btl_bounds {l : List Nat} (h : Ws l) (h0 : nrm l ≠ []) : 2 ^ (btl l - 1) ≤ val l ∧ val l < 2 ^ btl l ∧ 0 < btl l := by
  have hp : 0 < (nrm l).length := List.length_pos_iff.2 h0
  have hle := nrm_len l
  have hge := val_ge (l := l) h0
  obtain ⟨m, hm⟩ : ∃ m, (nrm l).length = m + 1 := ⟨(nrm l).length - 1, by omega⟩
  have e : val l = val (l.take m) + 4294967296 ^ m * l.getD m 0 := by
    rw [← val_take_next, ← hm, ← nrm_take, val_nrm]
  have h1 : val (l.take m) < 4294967296 ^ m := by
    have := val_lt (h.take m)
    rwa [List.length_take, Nat.min_eq_left (by omega)] at this
  have eb : btl l = 32 * m + Lib.bitLen (l.getD m 0) := by unfold btl; rw [if_neg h0, hm, Nat.add_sub_cancel]
  have hu := h.getD m
  rw [hm, Nat.add_sub_cancel] at hge
  obtain ⟨u, hu0⟩ : ∃ u, l.getD m 0 = u := ⟨_, rfl⟩
  rw [hu0] at e eb hu
  have hz : u ≠ 0 := by intro z; rw [z, Nat.mul_zero] at e; omega
  obtain ⟨b1, b2, b3⟩ := Lib.bitLenAux_bounds 64 u (by omega) hz
  change btl l = 32 * m + Lib.bitLenAux 64 u at eb
  rw [eb]
  generalize Lib.bitLenAux 64 u = L at *
  obtain ⟨c1, c2⟩ := btl_sums e h1 b2 b3
  rw [pow32, ← Nat.pow_add] at c1 c2
  refine ⟨?_, c2, by omega⟩
  rw [show 32 * m + L - 1 = 32 * m + (L - 1) by omega]
  exact c1
theorem btl_le {l : List Nat} (h : Ws l) : btl l ≤ 32 * (nrm l).length := by
  unfold btl
  split
  · omega
  · next h0 =>
    have hp : 0 < (nrm l).length := List.length_pos_iff.2 h0
    have := bitLen_le32 _ (h.getD ((nrm l).length - 1))
    omega
theorem lng_ge {v k : Nat} (hk : 32768 ≤ k) (h : 2 ^ k ≤ v) : lngB v = true := by
  unfold lngB
  refine decide_eq_true ?_
  rcases Nat.lt_or_ge 1024 (wds v).length with h1 | h1
  · exact h1
  · have h2 := wds_lt v
    rw [pow32] at h2
    have h3 : 2 ^ (32 * (wds v).length) ≤ 2 ^ k := Nat.pow_le_pow_right (by omega) (by omega)
    exact absurd (Nat.lt_of_lt_of_le h2 (Nat.le_trans h3 h)) (Nat.lt_irrefl _)
theorem shl_long {l : List Nat} {n : Nat} (h : Ws l) (h0 : nrm l ≠ []) (hn : 32768 < btl l + n) : lngB (val l * 2 ^ n) = true := by
  obtain ⟨h1, _, h3⟩ := btl_bounds h h0
  refine lng_ge (k := btl l - 1 + n) (by omega) ?_
  rw [Nat.pow_add]
  exact Nat.mul_le_mul_right _ h1
theorem shl_long2 {v n : Nat} (h0 : v ≠ 0) (hn : 32768 < n) : lngB (v * 2 ^ n) = true :=
  lng_ge (k := n) (by omega) (Nat.le_mul_of_pos_left _ (by omega))
theorem ShlP.all {o n s : Nat} {b S : List Nat} (h : ShlP (List.replicate (o + n) 0) o b s n S) (hn : b.length < n) : val S = val b * 2 ^ (32 * o + s) := by
  have hl := h.len
  rw [List.length_replicate] at hl
  have e1 : val S = val (S.take (o + n)) := by rw [List.take_of_length_le (by omega)]
  have e2 : S.take o = (List.replicate (o + n) 0).take o := take_congr o (by omega) (by rw [List.length_replicate]; omega) (fun j hj => h.far j (Or.inl hj))
  rw [e1, val_part S o n (by omega), h.whole hn, e2, List.take_replicate, val_zeros, pow32, Nat.zero_add, Nat.pow_add]
  grind
end Go.Proofs.YtlabblkonkhmgaaDoor
