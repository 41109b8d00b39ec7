/-
  Contracts of Long, checked, tooLong and answer.
-/
import Derived.Test.YtlabblkonkhmgaaDoorRow
namespace Go.Proofs.YtlabblkonkhmgaaDoor
open Go.RowKit
/-- Is a number too long? -/
def lngB (v : Nat) : Bool := decide (1024 < (wds v).length)
/-- What is told of a number: it, or that it is too long. -/
def NatPost (v : Nat) (w : World) (e : Ending) (w' : World) : Prop :=
  ∃ A n c k, e = .returned (.tuple #[.slice A n c, .int .i64 (k : Nat)]) ∧ (if lngB v = true then A = none ∧ n = 0 ∧ c = 0 ∧ k = 3 else n = (wds v).length ∧ n ≤ c ∧ k = 0 ∧ RW w' w'.heap.size A (wds v)) ∧ Below w.heap.size w w'
/-- That an error is told. -/
def ErrPost (k : Nat) (w : World) (e : Ending) (w' : World) : Prop := e = .returned (.tuple #[.slice none 0 0, .int .i64 (k : Nat)]) ∧ Below w.heap.size w w'
theorem NatPost.long {v : Nat} {w w' : World} (h : lngB v = true) (hb : Below w.heap.size w w') : NatPost v w (.returned (.tuple #[.slice none 0 0, .int .i64 3])) w' :=
  ⟨none, 0, 0, 3, rfl, by rw [if_pos h]; exact ⟨rfl, rfl, rfl, rfl⟩, hb⟩
theorem NatPost.ok {v : Nat} {w w' : World} {A : Option Addr} {n c : Nat} (h : lngB v = false) (hn : n = (wds v).length) (hc : n ≤ c) (hr : RW w' w'.heap.size A (wds v)) (hb : Below w.heap.size w w') : NatPost v w (.returned (.tuple #[.slice A n c, .int .i64 0])) w' :=
  ⟨A, n, c, 0, rfl, by rw [if_neg (by rw [h]; simp)]; exact ⟨hn, hc, rfl, hr⟩, hb⟩
theorem NatPost.from_ {v : Nat} {w w1 w' : World} {e : Ending} (hb : Below w.heap.size w w1) (h : NatPost v w1 e w') : NatPost v w e w' := by
  obtain ⟨A, n, c, k, h1, h2, h3⟩ := h
  exact ⟨A, n, c, k, h1, h2, below_le hb h3⟩
theorem lng_nrm {l : List Nat} (h : Ws l) : lngB (val l) = decide (1024 < (nrm l).length) := by unfold lngB; rw [nrm_wds h]
set_option maxHeartbeats 1000000 in
theorem rlong_any (A : Option Addr) (n c : Nat) (l : List Nat) (B : Nat) (w : World) (hn : l.length = n) (hc : n ≤ c) (hm : n ≤ 35184372088832) (h : RW w B A l) :
    Calls Tryd.prog 27 #[.slice A n c] w fun e w' => e = .returned (.bool (lngB (val l))) ∧ Below w.heap.size w w' := by
  have c1 := (rnorm_any A n c l B w hn hc hm h).mono (fun e w' x => SlPost.of h.1.nrm x)
  have hle := nrm_len l
  rw [lng_nrm h.1]
  obtain ⟨m, hm0⟩ : ∃ m, (nrm l).length = m := ⟨_, rfl⟩
  have h1 : (m : Int) ≤ 35184372088832 := by omega
  have HM := Lib.hid hm0
  rw [hm0]
  clear hn hc hm h hle hm0
  go_enter Tryd.func27, Tryd.ntmps27
  go_wp2_with fail
  refine c1.mono ?_
  rintro e w' ⟨v, rfl, ⟨A2, c2, rfl, _, _⟩, hb⟩
  rw [HM.out]
  go_wp2
  go_ret
  exact ⟨ret_bool (decide_eq_decide.2 (by omega)), hb⟩
/-- Two slices in a new row. -/
abbrev pair (w : World) (v u : Value) : World := w.alloc (.cells #[v, u] 22)
abbrev lone (w : World) (v : Value) : World := w.alloc (.cells #[v] 22)
theorem pair_cell0 (w : World) (v u : Value) : (pair w v u).cell? ⟨w.heap.size, 0, none⟩ = some v := by
  rw [cell_of_row _ _ _ _ _ _ (heap_alloc_new w (.cells #[v, u] 22))]; rfl
theorem pair_cell1 (w : World) (v u : Value) : (pair w v u).cell? ⟨w.heap.size, 1, none⟩ = some u := by
  rw [cell_of_row _ _ _ _ _ _ (heap_alloc_new w (.cells #[v, u] 22))]; rfl
theorem lone_cell0 (w : World) (v : Value) : (lone w v).cell? ⟨w.heap.size, 0, none⟩ = some v := by
  rw [cell_of_row _ _ _ _ _ _ (heap_alloc_new w (.cells #[v] 22))]; rfl
set_option maxHeartbeats 2000000 in
theorem tooTwo_any (A C : Option Addr) (n c m d : Nat) (l k : List Nat) (w : World) (hn : l.length = n) (hc : n ≤ c) (hm : n ≤ 35184372088832) (h : RW w w.heap.size A l)
    (gn : k.length = m) (gc : m ≤ d) (gm : m ≤ 35184372088832) (g : RW w w.heap.size C k) :
    Calls Tryd.prog 20 #[.slice (some ⟨w.heap.size, 0, none⟩) 2 2] (pair w (.slice A n c) (.slice C m d)) fun e w' => e = .returned (.bool (lngB (val l) || lngB (val k))) ∧ pair w (.slice A n c) (.slice C m d) = w' := by
  have hp : Below w.heap.size w (pair w (.slice A n c) (.slice C m d)) := (Below.refl _ _).alloc (Nat.le_refl _) _
  have c1 := cut_any A n c l w.heap.size _ hn hc hm (h.below hp)
  have c2 := cut_any C m d k w.heap.size _ gn gc gm (g.below hp)
  have d1 := pair_cell0 w (.slice A n c) (.slice C m d)
  have d2 := pair_cell1 w (.slice A n c) (.slice C m d)
  have e1 := lng_nrm h.1
  have e2 := lng_nrm g.1
  have hl1 := nrm_len l
  have hl2 := nrm_len k
  obtain ⟨N, hN⟩ : ∃ N, (nrm l).length = N := ⟨_, rfl⟩
  obtain ⟨M, hM⟩ : ∃ M, (nrm k).length = M := ⟨_, rfl⟩
  rw [hN] at c1 e1
  rw [hM] at c2 e2
  rw [e1, e2]
  have hN1 : (N : Int) ≤ 35184372088832 := by omega
  have hM1 : (M : Int) ≤ 35184372088832 := by omega
  clear hp h g hn hc hm gn gc gm e1 e2 hl1 hl2 hN hM
  generalize pair w (.slice A n c) (.slice C m d) = W at c1 c2 d1 d2 ⊢
  by_cases hA : 1024 < N
  · have hA' : (1024 : Int) < (N : Int) := by omega
    rw [show decide (1024 < N) = true from decide_eq_true hA, Bool.true_or]
    clear hA
    go_enter Tryd.func20, Tryd.ntmps20
    go_wp2
    go_loop [7] (fun i => i = .int .i64 0) (fun _ => 0)
    case atStart => exact rfl
    case round =>
      obtain rfl := hrel
      go_wp2_with fail
      refine c1.mono ?_
      rintro e w' ⟨rfl, rfl⟩
      go_wp2
      go_ret
      exact ⟨rfl, rfl⟩
  · have hA' : ¬ (1024 : Int) < (N : Int) := by omega
    rw [show decide (1024 < N) = false from decide_eq_false hA, Bool.false_or]
    clear hA
    have rel2 : decide (1024 < M) = true ∧ (1024 : Int) < (M : Int) ∨ decide (1024 < M) = false ∧ ¬ (1024 : Int) < (M : Int) := by
      by_cases hB : 1024 < M
      · exact .inl ⟨decide_eq_true hB, by omega⟩
      · exact .inr ⟨decide_eq_false hB, by omega⟩
    rcases rel2 with ⟨hb, hB⟩ | ⟨hb, hB⟩
    all_goals
      rw [hb]
      clear hb
      go_enter Tryd.func20, Tryd.ntmps20
      go_wp2
      go_loop [7] (fun i => i = .int .i64 0 ∨ i = .int .i64 1 ∨ (i = .int .i64 2 ∧ ¬ (1024 : Int) < (M : Int))) (fun i => 2 - (intOf i).toNat)
      case atStart => exact .inl rfl
      case round =>
        rcases hrel with rfl | rfl | ⟨rfl, hB2⟩
        · go_wp2_with fail
          refine c1.mono ?_
          rintro e w' ⟨rfl, rfl⟩
          go_wp2
          go_round
          case rel => exact .inr (.inl rfl)
          case measure => simp [intOf]
        · go_wp2_with fail
          refine c2.mono ?_
          rintro e w' ⟨rfl, rfl⟩
          go_wp2
          first
            | (go_ret; exact ⟨rfl, rfl⟩)
            | (go_round
               case rel => exact .inr (.inr ⟨rfl, by omega⟩)
               case measure => simp [intOf])
        · first
            | (exact absurd hB hB2)
            | (go_wp2
               go_ret
               exact ⟨rfl, rfl⟩)
set_option maxHeartbeats 2000000 in
theorem tooOne_any (A : Option Addr) (n c : Nat) (l : List Nat) (w : World) (hn : l.length = n) (hc : n ≤ c) (hm : n ≤ 35184372088832) (h : RW w w.heap.size A l) :
    Calls Tryd.prog 20 #[.slice (some ⟨w.heap.size, 0, none⟩) 1 1] (lone w (.slice A n c)) fun e w' => e = .returned (.bool (lngB (val l))) ∧ lone w (.slice A n c) = w' := by
  have hp : Below w.heap.size w (lone w (.slice A n c)) := (Below.refl _ _).alloc (Nat.le_refl _) _
  have c1 := cut_any A n c l w.heap.size _ hn hc hm (h.below hp)
  have d1 := lone_cell0 w (.slice A n c)
  have e1 := lng_nrm h.1
  have hl1 := nrm_len l
  obtain ⟨N, hN⟩ : ∃ N, (nrm l).length = N := ⟨_, rfl⟩
  rw [hN] at c1 e1
  rw [e1]
  have hN1 : (N : Int) ≤ 35184372088832 := by omega
  clear hp h hn hc hm e1 hl1 hN
  generalize lone w (.slice A n c) = W at c1 d1 ⊢
  by_cases hA : 1024 < N
  · have hA' : (1024 : Int) < (N : Int) := by omega
    rw [show decide (1024 < N) = true from decide_eq_true hA]
    clear hA
    go_enter Tryd.func20, Tryd.ntmps20
    go_wp2
    go_loop [7] (fun i => i = .int .i64 0) (fun _ => 0)
    case atStart => exact rfl
    case round =>
      obtain rfl := hrel
      go_wp2_with fail
      refine c1.mono ?_
      rintro e w' ⟨rfl, rfl⟩
      go_wp2
      go_ret
      exact ⟨rfl, rfl⟩
  · have hA' : ¬ (1024 : Int) < (N : Int) := by omega
    rw [show decide (1024 < N) = false from decide_eq_false hA]
    clear hA
    go_enter Tryd.func20, Tryd.ntmps20
    go_wp2
    go_loop [7] (fun i => i = .int .i64 0 ∨ i = .int .i64 1) (fun i => 1 - (intOf i).toNat)
    case atStart => exact .inl rfl
    case round =>
      rcases hrel with rfl | rfl
      · go_wp2_with fail
        refine c1.mono ?_
        rintro e w' ⟨rfl, rfl⟩
        go_wp2
        go_round
        case rel => exact .inr rfl
        case measure => simp [intOf]
      · go_wp2
        go_ret
        exact ⟨rfl, rfl⟩
set_option maxHeartbeats 2000000 in
theorem answer_any (A : Option Addr) (n c : Nat) (l : List Nat) (w : World) (hn : l.length = n) (hc : n ≤ c) (hm : n ≤ 35184372088832) (h : RW w w.heap.size A l) :
    Calls Tryd.prog 32 #[.slice A n c] w (NatPost (val l) w) := by
  have c1 := tooOne_any A n c l w hn hc hm h
  have hp : Below w.heap.size w (lone w (.slice A n c)) := (Below.refl _ _).alloc (Nat.le_refl _) _
  have c2 := cut_any A n c l w.heap.size _ hn hc hm (h.below hp)
  cases hl : lngB (val l)
  · rw [hl] at c1
    have HL := Lib.hid hl
    rw [nrm_wds h.1] at c2
    have HR := Lib.hid (show RW (lone w (.slice A n c)) (lone w (.slice A n c)).heap.size A (wds (val l)) by rw [← nrm_wds h.1]; exact (h.step hp).nrm)
    have HP := Lib.hid hp
    clear hn hc hm h hl hp
    go_enter Tryd.func32, Tryd.ntmps32
    go_wp2_with fail
    refine c1.mono ?_
    rintro e w1 ⟨rfl, rfl⟩
    go_wp2_with fail
    refine c2.mono ?_
    rintro e w1 ⟨rfl, rfl⟩
    go_wp2
    go_ret2
    exact NatPost.ok HL.out rfl (Nat.le_refl _) HR.out HP.out
  · rw [hl] at c1
    have HL := Lib.hid hl
    have HP := Lib.hid hp
    clear hn hc hm h hl hp c2
    go_enter Tryd.func32, Tryd.ntmps32
    go_wp2_with fail
    refine c1.mono ?_
    rintro e w1 ⟨rfl, rfl⟩
    go_wp2
    go_ret2
    exact NatPost.long HL.out HP.out
end Go.Proofs.YtlabblkonkhmgaaDoor
