/-
  The names that are declared: each once; none is lost. No program in it.
-/
import Derived.Test.YtjbofhaiephedaaGreatJ32
import Derived.Test.YtjbofhaiephedaaGreatJ30
namespace Go.Proofs.YtjbofhaiephedaaGreat
def memL (ls : List ByteArray) (s : ByteArray) : Bool := ls.any fun x => x.data.toList == s.data.toList
theorem hasL_mem (ls : List ByteArray) (s : ByteArray) : hasL ls s = memL ls s := by
  unfold hasL memL
  congr 1
  funext x
  rw [ByteArray.toList_eq, ByteArray.toList_eq]
/-- Each name stands there once. -/
def Dis (ls : List ByteArray) : Prop := ∀ i s, ls[i]? = some s → memL (ls.take i) s = false
theorem dis_add {ls : List ByteArray} (s : ByteArray) (h : Dis ls) : Dis (addL ls s) := by
  unfold addL
  split
  · exact h
  · rename_i hn
    intro i t hi
    rcases Nat.lt_or_ge i ls.length with hl | hl
    · rw [List.getElem?_append_left hl] at hi
      rw [List.take_append_of_le_length (by omega)]
      exact h i t hi
    · rw [List.getElem?_append_right hl] at hi
      have h0 : i - ls.length = 0 := by
        have := (List.getElem?_eq_some_iff.1 hi).1
        simp at this
        omega
      rw [h0] at hi
      obtain rfl : s = t := by simpa using hi
      have hil : i = ls.length := by omega
      subst hil
      rw [List.take_left]
      simpa [memL] using hn
theorem mem_add {ls : List ByteArray} (s : ByteArray) {t : ByteArray} (h : memL ls t = true) : memL (addL ls s) t = true := by
  unfold addL
  split
  · exact h
  · unfold memL at h ⊢
    rw [List.any_append, h, Bool.true_or]
theorem mem_own (ls : List ByteArray) (s : ByteArray) : memL (addL ls s) s = true := by
  unfold addL
  split
  · rename_i h
    exact h
  · unfold memL
    rw [List.any_append]
    simp
mutual
theorem dis_varG {ls : List ByteArray} (h : Dis ls) : ∀ t : Tn, Dis (varG ls t)
  | .mk d l => by
    rw [varG]
    split
    · exact h
    · split
      · exact dis_varL (dis_add d.st h) l
      · exact dis_varL h l
theorem dis_varL {ls : List ByteArray} (h : Dis ls) : ∀ l : List Tn, Dis (varL ls l)
  | [] => by rw [varL]; exact h
  | x :: r => by rw [varL]; exact dis_varL (dis_varG h x) r
end
mutual
theorem mem_varG {ls : List ByteArray} {s : ByteArray} (h : memL ls s = true) : ∀ t : Tn, memL (varG ls t) s = true
  | .mk d l => by
    rw [varG]
    split
    · exact h
    · split
      · exact mem_varL (mem_add d.st h) l
      · exact mem_varL h l
theorem mem_varL {ls : List ByteArray} {s : ByteArray} (h : memL ls s = true) : ∀ l : List Tn, memL (varL ls l) s = true
  | [] => by rw [varL]; exact h
  | x :: r => by rw [varL]; exact mem_varL (mem_varG h x) r
end
theorem dis_fn {ls : List ByteArray} (x : Tn) (h : Dis ls) : Dis (fnL ls x) := by
  unfold fnL
  split
  · exact dis_add _ h
  · exact h
theorem dis_fold : ∀ (l : List Tn) {ls : List ByteArray}, Dis ls → Dis (l.foldl fnL ls)
  | [], _ls, h => h
  | x :: r, _ls, h => dis_fold r (dis_fn x h)
theorem mem_fold : ∀ (l : List Tn) {ls : List ByteArray} {s : ByteArray}, memL ls s = true → memL (l.foldl fnL ls) s = true
  | [], ls, s, h => h
  | x :: r, ls, s, h => mem_fold r (by
    unfold fnL
    split
    · exact mem_add _ h
    · exact h)
theorem mem_fn : ∀ (l : List Tn) {ls : List ByteArray} {x : Tn}, x ∈ l → (x.datum.k == 42) = true → memL (l.foldl fnL ls) x.datum.st = true
  | [], ls, x, h, _ => by simp at h
  | y :: r, ls, x, h, hk => by
    rcases List.mem_cons.1 h with rfl | h
    · refine mem_fold r ?_
      unfold fnL
      rw [hk]
      exact mem_own _ _
    · exact mem_fn r h hk
theorem dis_all (l : List Tn) : Dis (varL (l.foldl fnL []) l) := dis_varL (dis_fold l (fun i s h => by simp at h)) l
end Go.Proofs.YtjbofhaiephedaaGreat
