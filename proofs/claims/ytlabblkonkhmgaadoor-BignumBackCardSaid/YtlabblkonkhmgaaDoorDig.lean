/-
  Plain lemmas: digits of a number in a radix, told and read. No program in it.
-/
import Derived.Test.YtlabblkonkhmgaaDoorPlain
import Derived.Lib.Strings
namespace Go.Proofs.YtlabblkonkhmgaaDoor
/-- What a list of digits counts, the lowest first. -/
def dv (r : Nat) : List Nat → Nat
  | [] => 0
  | x :: l => x + r * dv r l
/-- All are digits. -/
def Ds (r : Nat) (l : List Nat) : Prop := ∀ u ∈ l, u < r
/-- Without noughts at the end. -/
def dstrip : List Nat → List Nat
  | [] => []
  | x :: l => if x = 0 ∧ dstrip l = [] then [] else x :: dstrip l
theorem Ds.nil (r : Nat) : Ds r [] := fun u h => by simp at h
theorem Ds.head {r x : Nat} {l : List Nat} (h : Ds r (x :: l)) : x < r := h x (by simp)
theorem Ds.tail {r x : Nat} {l : List Nat} (h : Ds r (x :: l)) : Ds r l := fun u hu => h u (by simp [hu])
theorem Ds.snoc {r x : Nat} {l : List Nat} (h : Ds r l) (hx : x < r) : Ds r (l ++ [x]) := fun u hu => by
  rcases List.mem_append.1 hu with h1 | h1
  · exact h u h1
  · simp at h1; rw [h1]; exact hx
theorem dv_snoc (r : Nat) : ∀ (l : List Nat) (x : Nat), dv r (l ++ [x]) = dv r l + r ^ l.length * x
  | [], x => by simp [dv]
  | y :: l, x => by
    rw [List.cons_append, dv, dv_snoc r l x, dv, List.length_cons, Nat.pow_succ]
    grind
theorem dstrip_zero {r : Nat} (hr : 0 < r) : ∀ {l : List Nat}, dv r l = 0 → dstrip l = []
  | [], _ => rfl
  | x :: l, h => by
    rw [dv] at h
    have h1 : x = 0 := by omega
    have h2 : r * dv r l = 0 := by omega
    have h3 : dv r l = 0 := by
      rcases Nat.mul_eq_zero.1 h2 with h4 | h4
      · omega
      · exact h4
    rw [dstrip, dstrip_zero hr h3, if_pos ⟨h1, rfl⟩]
theorem dv_head {r x y u v : Nat} (hx : x < r) (hy : y < r) (h : x + r * u = y + r * v) : x = y ∧ u = v := by
  have h1 := congrArg (· % r) h
  simp only [Nat.add_mul_mod_self_left, Nat.mod_eq_of_lt hx, Nat.mod_eq_of_lt hy] at h1
  refine ⟨h1, ?_⟩
  rw [h1] at h
  exact Nat.eq_of_mul_eq_mul_left (by omega) (Nat.add_left_cancel h)
theorem dstrip_inj {r : Nat} (hr : 0 < r) : ∀ {l m : List Nat}, Ds r l → Ds r m → dv r l = dv r m → dstrip l = dstrip m
  | [], m, _, _, h => by rw [dstrip_zero hr (l := m) (by rw [← h]; rfl)]; rfl
  | x :: l, [], _, _, h => by rw [dstrip_zero hr (l := x :: l) (by rw [h]; rfl)]; rfl
  | x :: l, y :: m, hl, hm, h => by
    rw [dv, dv] at h
    obtain ⟨h1, h2⟩ := dv_head hl.head hm.head h
    have := dstrip_inj hr hl.tail hm.tail h2
    simp only [dstrip, h1, this]
theorem dstrip_pos : ∀ {l : List Nat}, (l = [] ∨ l.getLast? ≠ some 0) → dstrip l = l
  | [], _ => rfl
  | x :: l, h => by
    have h1 : (x :: l).getLast? ≠ some 0 := by
      rcases h with h | h
      · cases h
      · exact h
    rw [dstrip]
    cases l with
    | nil =>
      have : x ≠ 0 := fun e => h1 (by rw [e]; rfl)
      rw [if_neg (fun h => this h.1)]; rfl
    | cons y l =>
      have h2 := dstrip_pos (l := y :: l) (.inr (by rw [List.getLast?_cons_cons] at h1; exact h1))
      rw [h2, if_neg (fun h => by cases h.2)]
/-- The letter of a digit. -/
def dch (d : Nat) : Nat := if d < 10 then 48 + d else 87 + d
theorem dch_lt {d : Nat} (h : d < 36) : dch d < 128 := by unfold dch; split <;> omega
theorem dch_zero {d : Nat} (h : d < 36) : dch d = 48 ↔ d = 0 := by unfold dch; split <;> omega
/-- Without the first noughts. -/
def tz (l : List Nat) : List Nat := l.dropWhile (· == 48)
theorem tz_all : ∀ {l m : List Nat}, (∀ u ∈ l, u = 48) → tz (l ++ m) = tz m
  | [], m, _ => rfl
  | x :: l, m, h => by
    have hx := h x (by simp)
    unfold tz
    rw [List.cons_append, List.dropWhile_cons, if_pos (by simp [hx])]
    exact tz_all (fun u hu => h u (by simp [hu]))
theorem strip_split : ∀ l : List Nat, ∃ k, l = dstrip l ++ List.replicate k 0 ∧ (dstrip l = [] ∨ ∃ d m, dstrip l = m ++ [d] ∧ d ≠ 0)
  | [] => ⟨0, rfl, .inl rfl⟩
  | x :: l => by
    obtain ⟨k, h1, h2⟩ := strip_split l
    by_cases h : x = 0 ∧ dstrip l = []
    · refine ⟨k + 1, ?_, .inl (by rw [dstrip, if_pos h])⟩
      rw [dstrip, if_pos h, h.1, List.nil_append, List.replicate_succ]
      rw [h.2, List.nil_append] at h1
      rw [← h1]
    · refine ⟨k, by rw [dstrip, if_neg h, List.cons_append, ← h1], .inr ?_⟩
      rw [dstrip, if_neg h]
      rcases h2 with h3 | ⟨d, m, h3, h4⟩
      · exact ⟨x, [], by rw [h3]; rfl, fun e => h ⟨e, h3⟩⟩
      · exact ⟨d, x :: m, by rw [h3]; rfl, h4⟩
/-- The letters of digits from the highest on, without noughts ahead. -/
theorem tz_rev {r : Nat} (hr : r ≤ 36) {l : List Nat} (h : Ds r l) : tz ((l.map dch).reverse) = ((dstrip l).map dch).reverse := by
  obtain ⟨k, h1, h2⟩ := strip_split l
  have e : (l.map dch).reverse = (List.replicate k 48) ++ ((dstrip l).map dch).reverse := by
    conv => lhs; rw [h1]
    rw [List.map_append, List.reverse_append, List.map_replicate, List.reverse_replicate]
    rfl
  rw [e, tz_all (fun u hu => List.eq_of_mem_replicate hu)]
  rcases h2 with h3 | ⟨d, m, h3, h4⟩
  · rw [h3]; rfl
  · rw [h3, List.map_append, List.reverse_append]
    unfold tz
    have hd : d < 36 := Nat.lt_of_lt_of_le (h d (by rw [h1, h3]; simp)) hr
    have : dch d ≠ 48 := fun e => h4 ((dch_zero hd).1 e)
    simp [this]
/-! ### read -/
/-- What the first k digits count. -/
def pv (r : Nat) (g : Nat → Nat) : Nat → Nat
  | 0 => 0
  | k + 1 => pv r g k * r + g k
theorem pv_add (r : Nat) (g : Nat → Nat) (o : Nat) : ∀ n, pv r g (o + n) = pv r g o * r ^ n + pv r (fun i => g (o + i)) n
  | 0 => by simp [pv]
  | n + 1 => by
    rw [← Nat.add_assoc, pv, pv_add r g o n, pv, Nat.pow_succ]
    grind
theorem pv_lt {r : Nat} {g : Nat → Nat} : ∀ {n : Nat}, (∀ i, i < n → g i < r) → pv r g n < r ^ n
  | 0, _ => by simp [pv]
  | n + 1, h => by
    have h1 := pv_lt (fun i hi => h i (by omega)) (r := r) (g := g) (n := n)
    have h2 := h n (by omega)
    rw [pv, Nat.pow_succ]
    have : (pv r g n + 1) * r ≤ r ^ n * r := Nat.mul_le_mul_right _ h1
    rw [Nat.add_mul] at this
    omega
theorem pv_congr {r : Nat} {g f : Nat → Nat} : ∀ {n : Nat}, (∀ i, i < n → g i = f i) → pv r g n = pv r f n
  | 0, _ => rfl
  | n + 1, h => by rw [pv, pv, pv_congr (fun i hi => h i (by omega)), h n (by omega)]
theorem pv_mono {r : Nat} {g : Nat → Nat} (hr : 0 < r) {k : Nat} : ∀ {n : Nat}, k ≤ n → pv r g k ≤ pv r g n
  | 0, h => by rw [show k = 0 by omega]; exact Nat.le_refl _
  | n + 1, h => by
    rcases Nat.eq_or_lt_of_le h with h1 | h1
    · rw [h1]; exact Nat.le_refl _
    · have h2 := pv_mono (r := r) (g := g) hr (k := k) (n := n) (by omega)
      rw [pv]
      have : pv r g n * 1 ≤ pv r g n * r := Nat.mul_le_mul_left _ hr
      omega
/-- What a letter counts as a digit; 36, if it is none. -/
def dgt (c : Nat) : Nat := if 48 ≤ c ∧ c ≤ 57 then c - 48 else if 97 ≤ c ∧ c ≤ 122 then c - 97 + 10 else if 65 ≤ c ∧ c ≤ 90 then c - 65 + 10 else 36
theorem dgt_le (c : Nat) : dgt c ≤ 36 := by unfold dgt; split <;> (try split) <;> (try split) <;> omega
theorem dgt_dch {d : Nat} (h : d < 36) : dgt (dch d) = d := by unfold dgt dch; split <;> split <;> (try split) <;> omega
/-- A byte of a string. -/
def btn (s : ByteArray) (k : Nat) : Nat := (s.data[k]?.getD 0).toNat
theorem btn_eq (s : ByteArray) (k : Nat) (h : k < s.size) : ((s[k]'h).toNat : Nat) = btn s k := by
  unfold btn
  rw [Array.getElem?_eq_getElem (by exact h)]; rfl
theorem btn_lt (s : ByteArray) (k : Nat) : btn s k < 256 := (s.data[k]?.getD 0).toNat_lt
end Go.Proofs.YtlabblkonkhmgaaDoor
