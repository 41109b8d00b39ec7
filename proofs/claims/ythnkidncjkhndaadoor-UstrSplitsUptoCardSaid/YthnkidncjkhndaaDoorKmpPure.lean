/-
  Plain lemmas on looking for a text by its borders (Knuth, Morris, Pratt). No program in it.
-/
namespace Go.Proofs.YthnkidncjkhndaaDoor
/-- m is the greatest number of t's first units that p ends with. -/
def Mx (t p : List Nat) (m : Nat) : Prop := m ≤ t.length ∧ t.take m <:+ p ∧ ∀ k, k ≤ t.length → t.take k <:+ p → k ≤ m
/-- b is the greatest number, less than m, of t's first units that its first m end with. -/
def Bd (t : List Nat) (m b : Nat) : Prop := b < m ∧ t.take b <:+ t.take m ∧ ∀ k, k < m → t.take k <:+ t.take m → k ≤ b
/-- On the way to the next unit u: met of t's first units end p, and no more of them can go on with u. -/
def Jn (t p : List Nat) (u met : Nat) : Prop := met < t.length ∧ t.take met <:+ p ∧ ∀ k, met < k → k < t.length → t.take k <:+ p → t[k]? ≠ some u
theorem concat_suf (a b : List Nat) (x y : Nat) : (a ++ [x]) <:+ (b ++ [y]) ↔ x = y ∧ a <:+ b := by
  constructor
  · rintro ⟨r, hr⟩
    rw [← List.append_assoc] at hr
    have h := List.append_inj' hr rfl
    exact ⟨by simpa using h.2, r, h.1⟩
  · rintro ⟨rfl, r, rfl⟩
    exact ⟨r, by simp⟩
theorem take_succ_suf (t p : List Nat) (k u : Nat) (h : k < t.length) : t.take (k + 1) <:+ p ++ [u] ↔ t[k]? = some u ∧ t.take k <:+ p := by
  rw [List.take_succ_eq_append_getElem h, concat_suf, List.getElem?_eq_getElem h]
  simp
theorem suf_take (t p : List Nat) (k m : Nat) (hk : k ≤ m) (h1 : t.take k <:+ p) (h2 : t.take m <:+ p) : t.take k <:+ t.take m := by
  apply List.suffix_of_suffix_length_le h1 h2
  rw [List.length_take, List.length_take]
  omega
theorem Jn_start (t p : List Nat) (u m : Nat) (h : Mx t p m) (hm : m < t.length) : Jn t p u m :=
  ⟨hm, h.2.1, fun k hk hk2 hs => absurd (h.2.2 k (by omega) hs) (by omega)⟩
theorem Jn_fall (t p : List Nat) (u met b : Nat) (h : Jn t p u met) (hne : t[met]? ≠ some u) (hb : Bd t met b) : Jn t p u b := by
  obtain ⟨h1, h2, h3⟩ := h
  obtain ⟨b1, b2, b3⟩ := hb
  refine ⟨by omega, b2.trans h2, fun k hk hk2 hs => ?_⟩
  rcases Nat.lt_trichotomy k met with hlt | heq | hgt
  · have := b3 k hlt (suf_take t p k met (by omega) hs h2)
    omega
  · subst heq; exact hne
  · exact h3 k hgt hk2 hs
theorem Jn_yes (t p : List Nat) (u met : Nat) (h : Jn t p u met) (he : t[met]? = some u) : Mx t (p ++ [u]) (met + 1) := by
  obtain ⟨h1, h2, h3⟩ := h
  refine ⟨h1, (take_succ_suf t p met u h1).2 ⟨he, h2⟩, fun k hk hs => ?_⟩
  match k with
  | 0 => omega
  | k + 1 =>
    have := (take_succ_suf t p k u (by omega)).1 hs
    rcases Nat.lt_or_ge met k with hgt | hle
    · exact absurd this.1 (h3 k hgt (by omega) this.2)
    · omega
theorem Jn_no (t p : List Nat) (u : Nat) (h : Jn t p u 0) (he : t[0]? ≠ some u) : Mx t (p ++ [u]) 0 := by
  obtain ⟨h1, h2, h3⟩ := h
  refine ⟨by omega, by simp, fun k hk hs => ?_⟩
  match k with
  | 0 => omega
  | k + 1 =>
    have := (take_succ_suf t p k u (by omega)).1 hs
    rcases Nat.eq_zero_or_pos k with h0 | h0
    · subst h0; exact absurd this.1 he
    · exact absurd this.1 (h3 k h0 (by omega) this.2)
theorem Mx_nil (t : List Nat) : Mx t [] 0 := by
  refine ⟨by omega, by simp, fun k hk hs => ?_⟩
  have := hs.length_le
  rw [List.length_take] at this
  simp at this
  rcases this with h | h
  · omega
  · subst h; simp at hk; omega
/-- The borders are what a text tells of itself, its first unit left out. -/
theorem Bd_of_Mx (t : List Nat) (i m : Nat) (hi : i < t.length) (h : Mx t ((t.take (i + 1)).drop 1) m) : Bd t (i + 1) m := by
  obtain ⟨h1, h2, h3⟩ := h
  have hl : ((t.take (i + 1)).drop 1).length = i := by rw [List.length_drop, List.length_take]; omega
  have hm : m ≤ i := by
    have := h2.length_le
    rw [hl, List.length_take] at this
    omega
  have hd : (t.take (i + 1)).drop 1 <:+ t.take (i + 1) := List.drop_suffix _ _
  refine ⟨by omega, h2.trans hd, fun k hk hs => h3 k (by omega) ?_⟩
  apply List.suffix_of_suffix_length_le hs hd
  rw [hl, List.length_take]
  omega
theorem Mx_one (t : List Nat) : Mx t ((t.take 1).drop 1) 0 := by
  have e : (t.take 1).drop 1 = [] := by
    apply List.drop_eq_nil_iff.2
    rw [List.length_take]; omega
  rw [e]
  exact Mx_nil t
theorem drop_take_succ (t : List Nat) (i j : Nat) (hi : i < t.length) (hj : j ≤ i) : (t.take (i + 1)).drop j = (t.take i).drop j ++ [t[i]] := by
  rw [List.take_succ_eq_append_getElem hi, List.drop_append_of_le_length]
  rw [List.length_take]
  omega
/-- Does t stand at j? -/
def St (s t : List Nat) (j : Nat) : Prop := j + t.length ≤ s.length ∧ (s.drop j).take t.length = t
theorem St_suf (s t : List Nat) (fr i : Nat) (hi : i ≤ s.length) (hf : fr ≤ i) (h : t <:+ (s.take i).drop fr) : fr + t.length ≤ i ∧ St s t (i - t.length) := by
  have hl : ((s.take i).drop fr).length = i - fr := by rw [List.length_drop, List.length_take]; omega
  have h1 := h.length_le
  rw [hl] at h1
  have h2 : t <:+ s.take i := h.trans (List.drop_suffix _ _)
  refine ⟨by omega, by omega, ?_⟩
  have h3 := List.suffix_iff_eq_drop.1 h2
  have h4 : (s.take i).length = i := by rw [List.length_take]; omega
  rw [h4, List.drop_take, show i - (i - t.length) = t.length by omega] at h3
  exact h3.symm
theorem suf_St (s t : List Nat) (fr j : Nat) (hf : fr ≤ j) (h : St s t j) : t <:+ (s.take (j + t.length)).drop fr := by
  obtain ⟨h1, h2⟩ := h
  have e : t = (s.take (j + t.length)).drop j := by
    rw [List.drop_take, show j + t.length - j = t.length by omega]
    exact h2.symm
  have h3 : (s.take (j + t.length)).drop j <:+ (s.take (j + t.length)).drop fr := by
    rw [show j = fr + (j - fr) by omega, ← List.drop_drop]
    have := List.drop_suffix (j - fr) (((s.take (j + t.length)).drop fr))
    rw [show fr + (j - fr) = j by omega]
    exact this
  rw [← e] at h3
  exact h3
end Go.Proofs.YthnkidncjkhndaaDoor
