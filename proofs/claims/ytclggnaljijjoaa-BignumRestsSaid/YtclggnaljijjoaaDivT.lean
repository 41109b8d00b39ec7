/-
  What Div tells: a quotient, a rest, an error; put as two lists and a code.
-/
import Derived.Test.YtclggnaljijjoaaStep
import Derived.Test.YtclggnaljijjoaaShrS
import Derived.Test.YtclggnaljijjoaaRsub
namespace Go.Proofs.Ytclggnaljijjoaa
open Go.RowKit
theorem results_tmp3 {fn : Func} {t u v : Tmp} (h : fn.results = #[.tmp t, .tmp u, .tmp v]) (tmps : Array Value) (P : Program) (w : World) :
    (results fn tmps).run P w = .ok (.tuple #[tmps.getD t undef, tmps.getD u undef, tmps.getD v undef]) w := by
  simp [results, h]
def DivT (Q R : List Nat) (t : Nat) (w : World) (e : Ending) (w' : World) : Prop :=
  ∃ A n c C m d, e = .returned (.tuple #[.slice A n c, .slice C m d, .int .i64 (t : Nat)]) ∧ (n = Q.length ∧ n ≤ c ∧ m = R.length ∧ m ≤ d ∧ RW w' w'.heap.size A Q ∧ RW w' w'.heap.size C R) ∧ Below w.heap.size w w'
/-- May these be divided? -/
def divB (v u : Nat) : Bool := !(lngB v || lngB u) && !decide (u = 0)
def divQ (v u : Nat) : List Nat := if divB v u = true then wds (v / u) else []
def divR (v u : Nat) : List Nat := if divB v u = true then wds (v % u) else []
def divK (v u : Nat) : Nat := if (lngB v || lngB u) = true then 3 else if u = 0 then 4 else 0
theorem divB_ok {v u : Nat} (h : (lngB v || lngB u) = false) (hu : 0 < u) : divB v u = true := by
  unfold divB; rw [h, decide_eq_false (by omega)]; rfl
theorem DivT.ok {v u : Nat} {w w' : World} {A C : Option Addr} {n c m d : Nat} (h : (lngB v || lngB u) = false) (hu : 0 < u) (hn : n = (wds (v / u)).length) (hc : n ≤ c) (hm : m = (wds (v % u)).length) (hd : m ≤ d)
    (hA : RW w' w'.heap.size A (wds (v / u))) (hC : RW w' w'.heap.size C (wds (v % u))) (hb : Below w.heap.size w w') : DivT (divQ v u) (divR v u) (divK v u) w (.returned (.tuple #[.slice A n c, .slice C m d, .int .i64 0])) w' := by
  have e0 : divK v u = 0 := by unfold divK; rw [if_neg (by rw [h]; simp), if_neg (by omega)]
  unfold divQ divR
  rw [e0, if_pos (divB_ok h hu), if_pos (divB_ok h hu)]
  exact ⟨A, n, c, C, m, d, rfl, ⟨hn, hc, hm, hd, hA, hC⟩, hb⟩
theorem DivT.long {v u : Nat} {w w' : World} (h : (lngB v || lngB u) = true) (hb : Below w.heap.size w w') : DivT (divQ v u) (divR v u) (divK v u) w (.returned (.tuple #[.slice none 0 0, .slice none 0 0, .int .i64 3])) w' := by
  have e0 : divK v u = 3 := by unfold divK; rw [if_pos h]
  have e1 : divB v u = false := by unfold divB; rw [h]; rfl
  unfold divQ divR
  rw [e0, if_neg (by rw [e1]; simp), if_neg (by rw [e1]; simp)]
  exact ⟨none, 0, 0, none, 0, 0, rfl, ⟨rfl, Nat.le_refl _, rfl, Nat.le_refl _, RW.nil _ _ _, RW.nil _ _ _⟩, hb⟩
theorem DivT.zero {v u : Nat} {w w' : World} (h : (lngB v || lngB u) = false) (hu : u = 0) (hb : Below w.heap.size w w') : DivT (divQ v u) (divR v u) (divK v u) w (.returned (.tuple #[.slice none 0 0, .slice none 0 0, .int .i64 4])) w' := by
  have e0 : divK v u = 4 := by unfold divK; rw [if_neg (by rw [h]; simp), if_pos hu]
  have e1 : divB v u = false := by unfold divB; rw [decide_eq_true hu]; simp
  unfold divQ divR
  rw [e0, if_neg (by rw [e1]; simp), if_neg (by rw [e1]; simp)]
  exact ⟨none, 0, 0, none, 0, 0, rfl, ⟨rfl, Nat.le_refl _, rfl, Nat.le_refl _, RW.nil _ _ _, RW.nil _ _ _⟩, hb⟩
theorem DivT.from_ {Q R : List Nat} {t : Nat} {w w1 w' : World} {e : Ending} (hb : Below w.heap.size w w1) (h : DivT Q R t w1 e w') : DivT Q R t w e w' := by
  obtain ⟨A, n, c, C, m, d, h1, h2, h3⟩ := h
  exact ⟨A, n, c, C, m, d, h1, h2, below_le hb h3⟩
theorem divQ_len (v u : Nat) : (divQ v u).length ≤ 1024 := by
  unfold divQ
  split
  · next h =>
    have h1 : lngB v = false := by
      unfold divB at h
      cases e : lngB v
      · rfl
      · rw [e] at h; simp at h
    have h2 := lng_mono (Nat.div_le_self v u) h1
    unfold lngB at h2
    have := of_decide_eq_false h2
    omega
  · simp
theorem divR_len (v u : Nat) : (divR v u).length ≤ 1024 := by
  unfold divR
  split
  · next h =>
    have h1 : lngB v = false := by
      unfold divB at h
      cases e : lngB v
      · rfl
      · rw [e] at h; simp at h
    have h2 := lng_mono (Nat.mod_le v u) h1
    unfold lngB at h2
    have := of_decide_eq_false h2
    omega
  · simp
theorem divQ_ws (v u : Nat) : Ws (divQ v u) := by
  unfold divQ
  split
  · exact wds_ws _
  · exact Ws.nil
theorem divR_ws (v u : Nat) : Ws (divR v u) := by
  unfold divR
  split
  · exact wds_ws _
  · exact Ws.nil
end Go.Proofs.Ytclggnaljijjoaa
