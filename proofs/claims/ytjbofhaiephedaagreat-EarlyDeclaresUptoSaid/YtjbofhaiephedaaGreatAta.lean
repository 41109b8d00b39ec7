namespace Go.Proofs.YtjbofhaiephedaaGreat
/-- A tree: what stands in its node, and its Kids. -/
inductive Tr (α : Type) where
  | mk : α → List (Tr α) → Tr α

namespace Tr
variable {α : Type}
def kids : Tr α → List (Tr α) | mk _ l => l
def datum : Tr α → α | mk a _ => a
mutual
def size : Tr α → Nat | mk _ l => sizes l + 1
def sizes : List (Tr α) → Nat | [] => 0 | x :: l => size x + sizes l
end
mutual
def depth : Tr α → Nat | mk _ l => depths l + 1
def depths : List (Tr α) → Nat | [] => 0 | x :: l => max (depth x) (depths l)
end
theorem size_eq (x : Tr α) : x.size = sizes x.kids + 1 := by cases x; simp [size, kids]
theorem depth_eq (x : Tr α) : x.depth = depths x.kids + 1 := by cases x; simp [depth, kids]
theorem sizes_append (a b : List (Tr α)) : sizes (a ++ b) = sizes a + sizes b := by
  induction a with
  | nil => simp [sizes]
  | cons x a ih => simp [sizes, ih]; omega
theorem depths_append (a b : List (Tr α)) : depths (a ++ b) = max (depths a) (depths b) := by
  induction a with
  | nil => simp [depths]
  | cons x a ih => simp [depths, ih]
theorem size_pos (x : Tr α) : 1 ≤ x.size := by rw [size_eq]; omega
theorem depth_pos (x : Tr α) : 1 ≤ x.depth := by rw [depth_eq]; omega

/-- The trees one level below. -/
def under (l : List (Tr α)) : List (Tr α) := l.flatMap kids
theorem sizes_under (l : List (Tr α)) : sizes l = l.length + sizes (under l) := by
  induction l with
  | nil => simp [sizes, under]
  | cons x l ih =>
    have h : under (x :: l) = x.kids ++ under l := by simp [under]
    rw [sizes, h, sizes_append, size_eq, ih, List.length_cons]; omega
theorem depths_under (x : Tr α) (l : List (Tr α)) : depths (x :: l) = depths (under (x :: l)) + 1 := by
  induction l generalizing x with
  | nil => simp [depths, under, depth_eq]
  | cons y l ih =>
    have h : under (x :: y :: l) = x.kids ++ under (y :: l) := by simp [under]
    rw [depths, h, depths_append, depth_eq, ih y]; omega

/-- The lists of Kids, but for empty ones, of the lists of a level. -/
def lower (L : List (List (Tr α))) : List (List (Tr α)) := (L.flatten.map kids).filter (fun l => !l.isEmpty)
theorem flatten_filter (M : List (List (Tr α))) : (M.filter (fun l => !l.isEmpty)).flatten = M.flatten := by
  induction M with
  | nil => rfl
  | cons l M ih =>
    cases l with
    | nil => simpa using ih
    | cons x l => simp [List.filter, ih]
theorem lower_flatten (L : List (List (Tr α))) : (lower L).flatten = under L.flatten := by
  rw [lower, flatten_filter, under, List.flatMap_def]
theorem lower_full (L : List (List (Tr α))) : ∀ l ∈ lower L, l ≠ [] := by
  intro l hl
  rw [lower, List.mem_filter] at hl
  rintro rfl
  simp at hl

/-- How the levels are measured: so many nodes and levels had been; `m` is the most. -/
def meas (m : Nat) : Nat → List (List (Tr α)) → Nat → Nat → Nat × Nat
  | 0, _, s, d => (s, d)
  | f + 1, L, s, d => if L.isEmpty then (s, d) else
    if m < s + L.flatten.length then (0, 0) else meas m f (lower L) (s + L.flatten.length) (d + 1)
theorem meas_eq (m : Nat) : ∀ (f : Nat) (L : List (List (Tr α))) (s d : Nat), (∀ l ∈ L, l ≠ []) → depths L.flatten < f → s ≤ m →
    meas m f L s d = if m < s + sizes L.flatten then (0, 0) else (s + sizes L.flatten, d + depths L.flatten) := by
  intro f
  induction f with
  | zero => intro L s d _ h; omega
  | succ f ih =>
    intro L s d hL hf hs
    cases L with
    | nil => simp [meas, sizes, depths]; omega
    | cons l L =>
      have hl : l ≠ [] := hL l (by simp)
      obtain ⟨x, l, rfl⟩ := List.exists_cons_of_ne_nil hl
      have e1 := sizes_under ((x :: l) :: L).flatten
      have e2 : depths ((x :: l) :: L).flatten = depths (under ((x :: l) :: L).flatten) + 1 := by
        simp only [List.flatten_cons, List.cons_append]; exact depths_under _ _
      rw [← lower_flatten] at e1 e2
      rw [meas, if_neg (by simp)]
      by_cases hm : m < s + ((x :: l) :: L).flatten.length
      · rw [if_pos hm, if_pos (by omega)]
      · rw [if_neg hm, ih _ _ _ (lower_full _) (by omega) (by omega), e1, e2, ← Nat.add_assoc, ← Nat.add_assoc, Nat.add_right_comm d]
theorem meas_tree (m : Nat) (hm : 0 < m) (x : Tr α) : meas m (x.depth + 1) [[x]] 0 0 = if m < x.size then (0, 0) else (x.size, x.depth) := by
  have h : ([[x]] : List (List (Tr α))).flatten = [x] := rfl
  rw [meas_eq m _ _ _ _ (by simp) (by rw [h]; simp [depths]) (by omega), h]
  simp [sizes, depths]

mutual
/-- How many nodes there are and had been, counted one by one till they are too many. -/
def counted (m : Nat) : Tr α → Nat → Nat | mk _ l, h => countL m l (h + 1)
def countL (m : Nat) : List (Tr α) → Nat → Nat | [], h => h | x :: l, h => if h ≤ m then countL m l (counted m x h) else h
end
mutual
theorem counted_eq (m : Nat) : ∀ (x : Tr α) (h : Nat), h ≤ m → counted m x h = min (h + x.size) (m + 1)
  | mk a l, h, hh => by
    rw [counted, countL_eq m l (h + 1) (by omega), size]; omega
theorem countL_eq (m : Nat) : ∀ (l : List (Tr α)) (h : Nat), h ≤ m + 1 → countL m l h = min (h + sizes l) (m + 1)
  | [], h, hh => by rw [countL, sizes]; omega
  | x :: l, h, hh => by
    rw [countL, sizes]
    split
    · rename_i hm
      rw [counted_eq m x h hm, countL_eq m l _ (by omega)]; omega
    · omega
end
end Tr
end Go.Proofs.YtjbofhaiephedaaGreat
