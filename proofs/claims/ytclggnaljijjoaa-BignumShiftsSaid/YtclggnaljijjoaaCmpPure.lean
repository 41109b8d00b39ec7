/-
  Plain lemmas: the order of naturals as lists of words, found from the highest word on.
-/
import Derived.Test.YtclggnaljijjoaaPure
namespace Go.Proofs.Ytclggnaljijjoaa
theorem val_ht (l : List Nat) : val l = l.getD 0 0 + 4294967296 * val l.tail := by
  cases l with
  | nil => simp [val]
  | cons x r => simp [val]
theorem getD_tail (l : List Nat) (j : Nat) : l.tail.getD j 0 = l.getD (j + 1) 0 := by
  cases l with
  | nil => simp
  | cons x r => simp
theorem Ws.tl {l : List Nat} (h : Ws l) : Ws l.tail := fun u hu => h u (List.mem_of_mem_tail hu)
theorem val_ext : ∀ (n : Nat) (l m : List Nat), l.length ≤ n → m.length ≤ n → (∀ j, l.getD j 0 = m.getD j 0) → val l = val m
  | 0, l, m, hl, hm, _ => by
    rw [List.eq_nil_of_length_eq_zero (by omega : l.length = 0), List.eq_nil_of_length_eq_zero (by omega : m.length = 0)]
  | n + 1, l, m, hl, hm, h => by
    rw [val_ht l, val_ht m, h 0, val_ext n l.tail m.tail (by rw [List.length_tail]; omega) (by rw [List.length_tail]; omega) (fun j => by rw [getD_tail, getD_tail, h])]
theorem val_eq {l m : List Nat} (h : ∀ j, l.getD j 0 = m.getD j 0) : val l = val m := val_ext (l.length + m.length) l m (by omega) (by omega) h
theorem cmp_at : ∀ (i : Nat) (l m : List Nat), Ws l → Ws m → (∀ j, i < j → l.getD j 0 = m.getD j 0) → l.getD i 0 < m.getD i 0 → val l < val m
  | 0, l, m, _, _, h, hlt => by
    rw [val_ht l, val_ht m, val_eq (l := l.tail) (m := m.tail) (fun j => by rw [getD_tail, getD_tail, h (j + 1) (by omega)])]
    omega
  | i + 1, l, m, hl, hm, h, hlt => by
    have ih := cmp_at i l.tail m.tail hl.tl hm.tl (fun j hj => by rw [getD_tail, getD_tail, h (j + 1) (by omega)]) (by rw [getD_tail, getD_tail]; exact hlt)
    have h1 : l.getD 0 0 < 4294967296 := by
      rw [List.getD_eq_getElem?_getD]
      cases e : l[0]? with
      | none => simp
      | some u => exact hl.get e
    rw [val_ht l, val_ht m]
    omega
theorem cmp_len {l m : List Nat} (hl : Ws l) (h : (nrm l).length < (nrm m).length) : val l < val m := by
  have h1 := val_lt hl.nrm
  rw [val_nrm] at h1
  have h2 := val_ge (l := m) (fun e => by rw [e] at h; simp at h)
  have h3 : 4294967296 ^ (nrm l).length ≤ 4294967296 ^ ((nrm m).length - 1) := Nat.pow_le_pow_right (by omega) (by omega)
  omega
end Go.Proofs.Ytclggnaljijjoaa
