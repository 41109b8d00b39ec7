/-
  Plain lemmas: a number divided by a power of 2, and what is lost. Contract of loses.
-/
import Derived.Test.YtlabblkonkhmgaaDoorPShl
namespace Go.Proofs.YtlabblkonkhmgaaDoor
open Go.RowKit
theorem split_at (l : List Nat) (o : Nat) (ho : o ≤ l.length) : val l = val (l.take o) + 4294967296 ^ o * val (l.drop o) := by
  have h := val_part l o (l.length - o) ho
  rw [show o + (l.length - o) = l.length by omega, List.take_length, List.take_of_length_le (l := l.drop o) (by rw [List.length_drop]; omega)] at h
  exact h
theorem take_lt {l : List Nat} (h : Ws l) (o : Nat) (ho : o ≤ l.length) : val (l.take o) < 4294967296 ^ o := by
  have := val_lt (h.take o)
  rwa [List.length_take, Nat.min_eq_left ho] at this
theorem drop_div {l : List Nat} (h : Ws l) (o s : Nat) (ho : o ≤ l.length) : val l / 2 ^ (32 * o + s) = val (l.drop o) / 2 ^ s := by
  have h1 := take_lt h o ho
  rw [Nat.pow_add, ← pow32, ← Nat.div_div_eq_div_mul, split_at l o ho, Nat.add_mul_div_left _ _ (Nat.pow_pos (by omega)), Nat.div_eq_of_lt h1, Nat.zero_add]
theorem mod_parts {B T D P : Nat} (hT : T < B) (hP : 0 < P) : (T + B * D) % (B * P) = T + B * (D % P) := by
  have e : T + B * D = (T + B * (D % P)) + B * P * (D / P) := by
    have := Nat.div_add_mod D P
    have e2 : B * (P * (D / P) + D % P) = B * D := by rw [this]
    grind
  rw [e, Nat.add_mul_mod_self_left]
  refine Nat.mod_eq_of_lt ?_
  have h1 : B * (D % P + 1) ≤ B * P := Nat.mul_le_mul_left _ (Nat.mod_lt _ hP)
  rw [Nat.mul_add, Nat.mul_one] at h1
  omega
theorem head_mod {l : List Nat} {s : Nat} (hs : s ≤ 32) : val l % 2 ^ s = l.getD 0 0 % 2 ^ s := by
  cases l with
  | nil => simp [val]
  | cons x r =>
    simp only [val, List.getD_cons_zero]
    rw [← pow_parts hs, Nat.mul_assoc, Nat.add_mul_mod_self_left]
theorem drop_mod {l : List Nat} (h : Ws l) (o s : Nat) (ho : o ≤ l.length) (hs : s ≤ 32) : val l % 2 ^ (32 * o + s) = val (l.take o) + 4294967296 ^ o * (l.getD o 0 % 2 ^ s) := by
  rw [Nat.pow_add, ← pow32]
  conv => lhs; rw [split_at l o ho]
  rw [mod_parts (take_lt h o ho) (Nat.two_pow_pos s), head_mod hs, getD_drop, Nat.add_zero]
theorem zeros_take {l : List Nat} {k : Nat} (h : ∀ j, j < k → l.getD j 0 = 0) : val (l.take k) = 0 := val_all_zero fun j => by
  rcases Nat.lt_or_ge j k with hj | hj
  · rw [getD_take hj]; exact h j hj
  · rw [List.getD_eq_getElem?_getD, List.getElem?_take, if_neg (by omega)]; rfl
theorem loss_early {l : List Nat} (h : Ws l) (o s k : Nat) (ho : o ≤ l.length) (hs : s ≤ 32) (hk : k < o) (hx : l.getD k 0 ≠ 0) : decide (val l % 2 ^ (32 * o + s) ≠ 0) = true := by
  refine decide_eq_true ?_
  rw [drop_mod h o s ho hs]
  have e : val (l.take o) ≠ 0 := by
    intro z
    have h1 := nrm_val_zero z
    have h2 := val_part l k (o - k) (by omega)
    rw [show k + (o - k) = o by omega, z] at h2
    have h3 := val_part_succ l k 0 (by omega)
    have h4 : val ((l.drop k).take (o - k)) = 0 := by
      have hp : 0 < 4294967296 ^ k := Nat.pow_pos (by omega)
      rcases Nat.eq_zero_or_pos (val ((l.drop k).take (o - k))) with h5 | h5
      · exact h5
      · have := Nat.mul_pos hp h5; omega
    obtain ⟨m, hm⟩ : ∃ m, o - k = m + 1 := ⟨o - k - 1, by omega⟩
    rw [hm] at h4
    have h6 := List.getD_eq_getElem?_getD (l := (l.drop k).take (m + 1)) (i := 0) (a := 0)
    have h7 : ((l.drop k).take (m + 1)).getD 0 0 = l.getD k 0 := by rw [getD_take (by omega), getD_drop, Nat.add_zero]
    cases hc : (l.drop k).take (m + 1) with
    | nil => rw [hc] at h7; simp at h7; exact hx h7.symm
    | cons x r =>
      rw [hc] at h4 h7
      simp only [val] at h4
      simp only [List.getD_cons_zero] at h7
      omega
  omega
theorem loss_late {l : List Nat} (h : Ws l) (o s : Nat) (ho : o ≤ l.length) (hs : s ≤ 32) (hz : ∀ j, j < o → l.getD j 0 = 0) : decide (val l % 2 ^ (32 * o + s) ≠ 0) = decide (l.getD o 0 * 2 ^ (32 - s) % 4294967296 ≠ 0) := by
  rw [drop_mod h o s ho hs, zeros_take hz, Nat.zero_add]
  have h1 := mul_mod_low (l.getD o 0) (32 - s) (by omega)
  rw [show 32 - (32 - s) = s by omega] at h1
  rw [h1]
  have hp : 0 < 4294967296 ^ o := Nat.pow_pos (by omega)
  have hq : 0 < 2 ^ (32 - s) := Nat.two_pow_pos _
  refine decide_eq_decide.2 ?_
  constructor
  · intro a b
    rcases Nat.mul_eq_zero.1 b with b | b
    · omega
    · rw [b, Nat.mul_zero] at a; exact a rfl
  · intro a b
    rcases Nat.mul_eq_zero.1 b with b | b
    · omega
    · rw [b, Nat.mul_zero] at a; exact a rfl
theorem RW.drop {w : World} {B b off : Nat} {l : List Nat} (h : RW w B (some ⟨b, off, none⟩) l) (o : Nat) (ho : o < l.length) : RW w B (some ⟨b, off + o, none⟩) (l.drop o) := ⟨h.1.drop o, fun _ => by
  obtain ⟨b2, off2, he, hb, hc⟩ := h.2 (by omega)
  cases he
  refine ⟨b, off + o, rfl, hb, fun k u hu => ?_⟩
  rw [List.getElem?_drop] at hu
  rw [show off + o + k = off + (o + k) by omega]
  exact hc _ u hu⟩
end Go.Proofs.YtlabblkonkhmgaaDoor
namespace Go.Proofs.YtlabblkonkhmgaaDoor
open Go.RowKit
theorem sh_ne (x t : Nat) : (((x : Int) * 2 ^ t % 4294967296) != 0) = decide (x * 2 ^ t % 4294967296 ≠ 0) := by
  have e : ((x : Int) * 2 ^ t % 4294967296) = ((x * 2 ^ t % 4294967296 : Nat) : Int) := by rw [Int.natCast_emod, Int.natCast_mul, Int.natCast_pow]; rfl
  rw [e]
  by_cases h : x * 2 ^ t % 4294967296 = 0
  · rw [h]; rfl
  · rw [decide_eq_true h]
    simp only [bne_iff_ne, ne_eq]
    omega
set_option maxRecDepth 100000 in
set_option maxHeartbeats 1000000 in
theorem loses_any (b off n c p o s : Nat) (l : List Nat) (B : Nat) (w : World) (hn : l.length = n) (hc : n ≤ c) (hm : n ≤ 35184372087808) (h : RW w B (some ⟨b, off, none⟩) l) (hpo : p = 32 * o + s) (hs : s < 32) (ho : o < n) :
    Calls Tryd.prog 62 #[.slice (some ⟨b, off, none⟩) n c, .int .i64 p] w fun e w' => e = .returned (.bool (decide (val l % 2 ^ p ≠ 0))) ∧ w = w' := by
  have hcell : ∀ k u : Nat, l[k]? = some u → w.cell? ⟨b, off + k, none⟩ = some (.int .u32 (u : Int)) := by
    obtain ⟨b2, off2, he, _, hc2⟩ := h.2 (by omega)
    cases he
    exact hc2
  have hcl := hcell o _ (getD_some (by omega))
  have HE := Lib.hid (fun k hk hx => loss_early (k := k) h.1 o s (by omega) (by omega) hk hx)
  have HL := Lib.hid (fun hz => loss_late h.1 o s (by omega) (by omega) hz)
  rw [← hpo] at HE HL
  have HCELL := Lib.hid hcell
  have HN := Lib.hid hn
  have ho1 : (o : Int) < (n : Int) := by omega
  have hn1 : (n : Int) ≤ 35184372087808 := by omega
  have hc1 : (n : Int) ≤ (c : Int) := by omega
  have hoc : o ≤ c := by omega
  have e3 : (p : Int) / 32 = (o : Int) := by omega
  have e4 : (p : Int) % 32 = (s : Int) := by omega
  have p0 : (0 : Int) ≤ (p : Int) := by omega
  have hs1 : (s : Int) < 32 := by omega
  have hs0 : (0 : Int) ≤ (s : Int) := by omega
  have e2 : IntKind.i64.wrap (32 - (s : Int)) = 32 - (s : Int) := IntWalk.i64_in _ (by omega)
  have e5 : (0 : Int) ≤ 32 - (s : Int) := by omega
  obtain ⟨x, hx⟩ : ∃ x, l.getD o 0 = x := ⟨_, rfl⟩
  rw [hx] at HL hcl
  clear hn hc hm h hpo hs hcell hx
  go_enter Tryd.func62, Tryd.ntmps62
  go_wp2
  go_loopw [12] (fun i wr => ∃ (k : Nat), i = .int .i64 k ∧ k ≤ o ∧ Hid (∀ j, j < k → l.getD j 0 = 0) ∧ w = wr) (fun i _ => o - (intOf i).toNat)
  case atStart => exact ⟨0, rfl, Nat.zero_le _, Lib.hid (fun j hj => by omega), rfl⟩
  case round =>
    obtain ⟨k, rfl, hk, HZ, rfl⟩ := hrel
    by_cases hlt : k < o
    · have hck := HCELL.out k _ (getD_some (by rw [HN.out]; omega))
      obtain ⟨y, hy⟩ : ∃ y, l.getD k 0 = y := ⟨_, rfl⟩
      rw [hy] at hck
      have hkk : (k : Int) < (o : Int) := by omega
      by_cases h0 : y = 0
      · subst h0
        have HZ2 := Lib.hid (show ∀ j, j < k + 1 → l.getD j 0 = 0 from fun j hj => by
          rcases Nat.lt_or_ge j k with h1 | h1
          · exact HZ.out j h1
          · rw [show j = k by omega]; exact hy)
        clear hy
        go_wp2
        go_roundw
        case rel => exact ⟨k + 1, by go_num, by omega, HZ2, trivial⟩
        case measure => simp [intOf]; omega
      · have HF := Lib.hid (HE.out k hlt (by rw [hy]; exact h0))
        have hyn : ((y : Int) == 0) = false := by simp; omega
        have hyn2 : ¬ (y : Int) = 0 := by omega
        clear hy
        go_wp2
        go_ret
        exact ⟨ret_bool HF.out.symm, rfl⟩
    · have hko : k = o := by omega
      subst hko
      have HF := Lib.hid (HL.out HZ.out)
      clear hlt hk
      go_wp2
      go_ret
      exact ⟨ret_bool (by rw [HF.out, ← sh_ne]), rfl⟩
end Go.Proofs.YtlabblkonkhmgaaDoor
