/-
  Plain lemmas for the law UstrWhole: Trim of Trim, Lower of Lower, the order of Go strings.
-/
import Derived.Test.YthnkidncjkhndaaDoorSplPure
import Derived.Test.YthnkidncjkhndaaDoorTrim
namespace Go.Proofs.YthnkidncjkhndaaDoor
open Go.RowKit
theorem tF_spec (s : ByteArray) : ∀ (f i : Nat), i ≤ ln s → ln s ≤ i + f → tF s f i ≤ ln s ∧ (tF s f i < ln s → blU s (tF s f i) = false)
  | 0, i, h1, h2 => by simp only [tF]; exact ⟨h1, fun h => by omega⟩
  | f + 1, i, h1, h2 => by
    rw [tF]
    split
    · next h => exact tF_spec s f (i + 1) (by omega) (by omega)
    · next h =>
      refine ⟨h1, fun h3 => ?_⟩
      cases hb : blU s i
      · rfl
      · exact absurd ⟨h3, hb⟩ h
theorem tT_spec (s : ByteArray) (F : Nat) : ∀ (f t : Nat), t ≤ F + f → tT s F f t ≤ t ∧ (F < tT s F f t → blU s (tT s F f t - 1) = false)
  | 0, t, h1 => by simp only [tT]; exact ⟨Nat.le_refl _, fun h => by omega⟩
  | f + 1, t, h1 => by
    rw [tT]
    split
    · next h =>
      have := tT_spec s F f (t - 1) (by omega)
      exact ⟨by omega, this.2⟩
    · next h =>
      refine ⟨Nat.le_refl _, fun h3 => ?_⟩
      cases hb : blU s (t - 1)
      · rfl
      · exact absurd ⟨h3, hb⟩ h
theorem un_tx (l : List Nat) (h : ∀ u ∈ l, u < 65536) (i : Nat) : un (tx l) i = l.getD i 0 := by unfold un; rw [us_tx l h]
theorem trim_core (l : List Nat) (h : ∀ u ∈ l, u < 65536) (h0 : l = [] ∨ (blB (l.getD 0 0 : Nat) = false ∧ blB (l.getD (l.length - 1) 0 : Nat) = false)) : trimS (tx l) = tx l := by
  have hl : ln (tx l) = l.length := ln_tx l
  have hfr : frS (tx l) = 0 := by
    unfold frS
    refine tF_end _ _ _ ?_
    rintro ⟨h1, h2⟩
    rcases h0 with rfl | ⟨h3, _⟩
    · rw [hl] at h1; simp at h1
    · unfold blU at h2; rw [un_tx l h, h3] at h2; cases h2
  have hto : toS (tx l) = l.length := by
    unfold toS
    rw [hfr, hl]
    refine tT_end _ _ _ _ ?_
    rintro ⟨h1, h2⟩
    rcases h0 with rfl | ⟨_, h3⟩
    · simp at h1
    · unfold blU at h2; rw [un_tx l h, h3] at h2; cases h2
  unfold trimS
  rw [hfr, hto]
  have e := slS_end (tx l) 0 (Nat.zero_le _)
  rw [hl, us_tx l h] at e
  exact e
theorem trim_idem (s : ByteArray) : trimS (trimS s) = trimS s := by
  have hF := tF_spec s (ln s) 0 (Nat.zero_le _) (by omega)
  have hT := tT_spec s (frS s) (ln s) (ln s) (by omega)
  have eF : tF s (ln s) 0 = frS s := rfl
  have eT : tT s (frS s) (ln s) (ln s) = toS s := rfl
  rw [eF] at hF
  rw [eT] at hT
  have hlt := us_lt s
  by_cases h : frS s ≤ toS s
  · have e : trimS s = tx (((us s).drop (frS s)).take (toS s - frS s)) := slS_tx s (frS s) (toS s) h hT.1
    rw [e]
    have hlen : (((us s).drop (frS s)).take (toS s - frS s)).length = toS s - frS s := by
      rw [List.length_take, List.length_drop, us_length]; omega
    refine trim_core _ (fun u hu => hlt u (List.mem_of_mem_drop (List.mem_of_mem_take hu))) ?_
    have hget : ∀ k, k < toS s - frS s → (((us s).drop (frS s)).take (toS s - frS s)).getD k 0 = un s (frS s + k) := by
      intro k hk
      unfold un
      rw [List.getD_eq_getElem?_getD, List.getD_eq_getElem?_getD, List.getElem?_take, if_pos hk, List.getElem?_drop]
    by_cases h2 : frS s < toS s
    · right
      rw [hlen, hget 0 (by omega), hget (toS s - frS s - 1) (by omega)]
      refine ⟨?_, ?_⟩
      · exact hF.2 (by omega)
      · have := hT.2 h2
        rw [show frS s + (toS s - frS s - 1) = toS s - 1 by omega]
        exact this
    · left
      apply List.eq_nil_of_length_eq_zero
      rw [hlen]; omega
  · have e : trimS s = tx [] := by
      unfold trimS slS
      rw [if_neg (by omega)]
      rfl
    rw [e]
    exact trim_core [] (fun u hu => by simp at hu) (.inl rfl)
theorem small_idem (u : Nat) : smallU (smallU u) = smallU u := by
  unfold smallU
  split
  · next h => rw [if_neg (by omega)]
  · next h => rfl
theorem lo_idem (s : ByteArray) : loS (tx (loS s)) = loS s := by
  have h : ∀ u ∈ loS s, u < 65536 := by
    intro u hu
    unfold loS at hu
    simp only [List.mem_map] at hu
    obtain ⟨v, hv, rfl⟩ := hu
    exact smallU_lt v (us_lt s v hv)
  have e : loS (tx (loS s)) = (loS s).map smallU := by
    show (us (tx (loS s))).map smallU = _
    rw [us_tx _ h]
  rw [e]
  unfold loS
  rw [List.map_map]
  congr 1
  funext u
  exact small_idem u
theorem cmpB : ∀ a b : List UInt8, (Lib.compareBytes a b = -1 ∧ Op.bytesLess a b = true ∧ (a == b) = false) ∨ (Lib.compareBytes a b = 0 ∧ Op.bytesLess a b = false ∧ (a == b) = true) ∨ (Lib.compareBytes a b = 1 ∧ Op.bytesLess a b = false ∧ (a == b) = false)
  | [], [] => by simp [Lib.compareBytes, Op.bytesLess]
  | [], _ :: _ => by simp [Lib.compareBytes, Op.bytesLess]
  | _ :: _, [] => by simp [Lib.compareBytes, Op.bytesLess]
  | x :: a, y :: b => by
    have ih := cmpB a b
    by_cases h1 : x < y
    · left
      refine ⟨by simp [Lib.compareBytes, h1], by simp [Op.bytesLess, h1], ?_⟩
      have : x ≠ y := fun e => by subst e; exact absurd h1 (UInt8.lt_irrefl _)
      simp [this]
    · by_cases h2 : y < x
      · right; right
        have : x ≠ y := fun e => by subst e; exact absurd h2 (UInt8.lt_irrefl _)
        exact ⟨by simp [Lib.compareBytes, h1, h2], by simp [Op.bytesLess, h1, this], by simp [this]⟩
      · have : x = y := UInt8.le_antisymm (UInt8.not_lt.1 h2) (UInt8.not_lt.1 h1)
        subst this
        have e1 : Lib.compareBytes (x :: a) (x :: b) = Lib.compareBytes a b := by simp [Lib.compareBytes]
        have e2 : Op.bytesLess (x :: a) (x :: b) = Op.bytesLess a b := by simp [Op.bytesLess]
        have e3 : ((x :: a) == (x :: b)) = (a == b) := by simp
        rw [e1, e2, e3]
        exact ih
theorem even_data (s : ByteArray) (h : s.size % 2 = 0) : s.toList = bL (us s) := by
  rw [Lib.toList_data]
  have := wh_data s
  rw [wh_even s h] at this
  exact this
theorem cmp_cases (s t : ByteArray) (hs : s.size % 2 = 0) (ht : t.size % 2 = 0) :
    (cmpU (us s) (us t) = -1 ∧ Op.bytesLess s.toList t.toList = true ∧ (s.toList == t.toList) = false) ∨ (cmpU (us s) (us t) = 0 ∧ Op.bytesLess s.toList t.toList = false ∧ (s.toList == t.toList) = true) ∨ (cmpU (us s) (us t) = 1 ∧ Op.bytesLess s.toList t.toList = false ∧ (s.toList == t.toList) = false) := by
  rw [even_data s hs, even_data t ht, ← cmp_bL (us s) (us t) (us_lt s) (us_lt t)]
  exact cmpB _ _
theorem split_join (s t : ByteArray) (ps : List (List Nat)) (h : Spl (us s) (us t) 0 ps) (hs : s.size % 2 = 0) : tx (jn (us t) ((ps.map tx).map us)) = s := by
  have e : (ps.map tx).map us = ps := by
    rw [List.map_map]
    have : ∀ p ∈ ps, (us ∘ tx) p = p := fun p hp => us_tx p (Spl_lt h (us_lt s) p hp)
    rw [List.map_congr_left this]
    exact List.map_id' ps
  rw [e, Spl_join h, List.drop_zero, tx_us, wh_even s hs]
theorem spl_len {s t : List Nat} {fr : Nat} {ps : List (List Nat)} (h : Spl s t fr ps) (ht : 0 < t.length) (hfr : fr ≤ s.length) : ps.length ≤ s.length - fr + 1 := by
  induction h with
  | last fr hf => simp
  | more fr j ps hj _ ih =>
    rcases hj with ⟨h1, _⟩ | ⟨k, h1, h2, h3, _⟩
    · omega
    · obtain rfl : j = k := by omega
      have := h3.1
      have := ih (by omega)
      simp only [List.length_cons]
      omega
theorem spl_size {s t : List Nat} {fr : Nat} {ps : List (List Nat)} (h : Spl s t fr ps) : ∀ p ∈ ps, p.length ≤ s.length := by
  induction h with
  | last fr hf => intro p hp; simp at hp; subst hp; rw [List.length_drop]; omega
  | more fr j ps hj _ ih =>
    intro p hp
    simp only [List.mem_cons] at hp
    rcases hp with rfl | hp
    · rw [List.length_take, List.length_drop]; omega
    · exact ih p hp
end Go.Proofs.YthnkidncjkhndaaDoor
