/-
  Contracts of the two functions that tell a word, of the comparison of lists, of Of of both, of Long and tooLong, answer and checked.
-/
import Derived.Test.YtlabblkonkhmgaaDoorNorm
namespace Go.Proofs.YtlabblkonkhmgaaDoor
open Go.RowKit
/-- A call that tells the words l, and changes nothing that was. -/
def SlPost (l : List Nat) (w : World) (e : Ending) (w' : World) : Prop := ∃ v, e = .returned v ∧ Sl w' w'.heap.size v l ∧ Below w.heap.size w w'
theorem SlPost.of {l : List Nat} {w : World} {e : Ending} {w' : World} (hw : Ws l) (h : OwnPost l w e w') : SlPost l w e w' := by
  obtain ⟨v, e, ho, hb⟩ := h
  exact ⟨v, e, ho.sl hw, hb⟩
theorem rword_in (A : Option Addr) (n c i : Nat) (l : List Nat) (B : Nat) (w : World) (hn : l.length = n) (hm : n ≤ 35184372088832) (h : RW w B A l) (hi : i < n) :
    Calls Tryd.prog 56 #[.slice A n c, .int .i64 i] w fun e w' => e = .returned (.int .u64 (l.getD i 0 : Nat)) ∧ w = w' := by
  have hx := h.1.getD i
  obtain ⟨b, off, rfl, _, hc⟩ := h.2 (by omega)
  have hcell := hc i _ (getD_some (by omega))
  obtain ⟨u, hu⟩ : ∃ u, l.getD i 0 = u := ⟨_, rfl⟩
  rw [hu] at hcell hx ⊢
  have hx' : (u : Int) < 4294967296 := by omega
  have h1 : (i : Int) < (n : Int) := by omega
  have h2 : (n : Int) ≤ 35184372088832 := by omega
  clear hn hm h hc hu hi hx
  go_enter Tryd.func56, Tryd.ntmps56
  go_wp2
  go_ret
  exact ⟨rfl, rfl⟩
theorem rword_out (A : Option Addr) (n c i : Nat) (l : List Nat) (w : World) (hn : l.length = n) (hi : n ≤ i) :
    Calls Tryd.prog 56 #[.slice A n c, .int .i64 i] w fun e w' => e = .returned (.int .u64 (l.getD i 0 : Nat)) ∧ w = w' := by
  have e : l.getD i 0 = 0 := getD_none (by omega)
  rw [e]
  have h1 : ¬ ((i : Int) < (n : Int)) := by omega
  clear hn hi e
  go_enter Tryd.func56, Tryd.ntmps56
  go_wp2
  go_ret
  exact ⟨rfl, rfl⟩
theorem rword_any (A : Option Addr) (n c i : Nat) (l : List Nat) (B : Nat) (w : World) (hn : l.length = n) (hm : n ≤ 35184372088832) (h : RW w B A l) :
    Calls Tryd.prog 56 #[.slice A n c, .int .i64 i] w fun e w' => e = .returned (.int .u64 (l.getD i 0 : Nat)) ∧ w = w' := by
  by_cases hi : i < n
  · exact rword_in A n c i l B w hn hm h hi
  · exact rword_out A n c i l w hn (by omega)
set_option maxHeartbeats 1000000 in
theorem same_any (A C : Option Addr) (n c d : Nat) (l : List Nat) (B D : Nat) (w : World) (hn : l.length = n) (hm : n ≤ 35184372088832) (hA : RW w B A l) (hC : RW w D C l) :
    Calls Tryd.prog 11 #[.slice A n c, .slice C n d] w fun e w' => e = .returned (.bool true) ∧ ∃ k, w' = w.drewN k := by
  rcases Nat.eq_zero_or_pos n with h0 | h0
  · subst h0
    clear hn hm hA hC
    go_enter Tryd.func11, Tryd.ntmps11
    go_wp2
    go_loopw [5] (fun i wr => i = .int .i64 0 ∧ ∃ n, wr = w.drewN n) (fun _ _ => 0)
    case atStart => exact ⟨rfl, 0, rfl⟩
    case round =>
      obtain ⟨rfl, n, rfl⟩ := hrel
      go_wp2
      go_ret
      exact ⟨rfl, n, rfl⟩
  · obtain ⟨a, o, rfl, _, ha⟩ := hA.2 (by omega)
    obtain ⟨b, p, rfl, _, hb⟩ := hC.2 (by omega)
    have HN := Lib.hid hn
    have HA := Lib.hid ha
    have HB := Lib.hid hb
    have h2 : (n : Int) ≤ 35184372088832 := by omega
    clear hn hm hA hC ha hb
    go_enter Tryd.func11, Tryd.ntmps11
    go_wp2
    go_loopw [5] (fun i wr => ∃ k : Nat, i = .int .i64 k ∧ k ≤ n ∧ ∃ j, wr = w.drewN j) (fun i _ => n - (intOf i).toNat)
    case atStart => exact ⟨0, rfl, Nat.zero_le _, 0, rfl⟩
    case round =>
      obtain ⟨k, rfl, hk, j, rfl⟩ := hrel
      by_cases hlt : k < n
      · obtain ⟨u, hu⟩ : ∃ u, l.getD k 0 = u := ⟨_, rfl⟩
        have d1 := HA.out k _ (getD_some (by rw [HN.out]; exact hlt))
        have d2 := HB.out k _ (getD_some (by rw [HN.out]; exact hlt))
        rw [hu] at d1 d2
        have b1 : (0 : Int) ≤ (k : Int) := by omega
        have b2 : (k : Int) < (n : Int) := by omega
        clear hu
        go_wp2
        go_quiet (fail)
        go_wp2
        go_roundw
        case rel => exact ⟨k + 1, by go_num, by omega, _, rfl⟩
        case measure => simp [intOf]; omega
      · go_wp2
        go_ret
        exact ⟨rfl, j, rfl⟩
/-- The words of a number of 64 bits. -/
def two (n : Nat) : List Nat := [n % 4294967296, n / 4294967296]
theorem lit_rw (w : World) (x y : Nat) (hx : x < 4294967296) (hy : y < 4294967296) : RW (w.alloc (.cells #[.int .u32 (x : Int), .int .u32 (y : Int)] 42)) (w.heap.size + 1) (some ⟨w.heap.size, 0, none⟩) [x, y] := ⟨Ws.cons hx (Ws.cons hy Ws.nil), fun _ => by
  refine ⟨w.heap.size, 0, rfl, by omega, fun k u hu => ?_⟩
  rw [Nat.zero_add, cell_of_row _ _ _ _ _ _ (heap_alloc_new w (.cells #[.int .u32 (x : Int), .int .u32 (y : Int)] 42))]
  match k, hu with
  | 0, hu => simp at hu; subst hu; rfl
  | 1, hu => simp at hu; subst hu; rfl
  | k + 2, hu => simp at hu⟩
theorem two_ws {n : Nat} (hn : n < 18446744073709551616) : Ws (two n) := Ws.cons (by omega) (Ws.cons (by omega) Ws.nil)
theorem two_val (n : Nat) : val (two n) = n := by simp only [two, val]; omega
set_option maxHeartbeats 1000000 in
theorem of_any (n : Nat) (hn : n < 18446744073709551616) (w : World) : Calls Tryd.prog 41 #[.int .u64 n] w (SlPost (nrm (two n)) w) := by
  have c1 := cut_any (some ⟨w.heap.size, 0, none⟩) 2 2 (two n) (w.heap.size + 1) _ rfl (Nat.le_refl _) (by omega) (lit_rw w (n % 4294967296) (n / 4294967296) (by omega) (by omega))
  have h1 : (n : Int) ≤ 18446744073709551615 := by omega
  have H := lit_rw w (n % 4294967296) (n / 4294967296) (by omega) (by omega)
  rw [show ((n % 4294967296 : Nat) : Int) = (n : Int) % 4294967296 by omega, show ((n / 4294967296 : Nat) : Int) = (n : Int) / 4294967296 by omega] at c1 H
  have HH := Lib.hid H
  clear hn H
  go_enter Tryd.func41, Tryd.ntmps41
  go_wp2_with fail
  refine c1.mono ?_
  rintro e w' ⟨rfl, rfl⟩
  go_wp2
  go_ret
  refine ⟨_, rfl, Sl.mk rfl (Nat.le_refl _) (HH.out.nrm.more (by simp)), (Below.refl _ _).alloc (Nat.le_refl _) _⟩
set_option maxHeartbeats 1000000 in
theorem rof_any (n : Nat) (hn : n < 18446744073709551616) (w : World) : Calls Tryd.prog 42 #[.int .u64 n] w (SlPost (nrm (two n)) w) := by
  have H := lit_rw w (n % 4294967296) (n / 4294967296) (by omega) (by omega)
  have c1 := rnorm_any (some ⟨w.heap.size, 0, none⟩) 2 2 (two n) (w.heap.size + 1) _ rfl (Nat.le_refl _) (by omega) H
  have h1 : (n : Int) ≤ 18446744073709551615 := by omega
  rw [show ((n % 4294967296 : Nat) : Int) = (n : Int) % 4294967296 by omega, show ((n / 4294967296 : Nat) : Int) = (n : Int) / 4294967296 by omega] at c1
  have HW := Lib.hid (two_ws hn).nrm
  clear hn H
  go_enter Tryd.func42, Tryd.ntmps42
  go_wp2_with fail
  refine c1.mono ?_
  rintro e w' ⟨v, rfl, ho, hb⟩
  go_wp2
  go_ret
  exact ⟨_, rfl, ho.sl HW.out, ((Below.refl _ _).alloc (Nat.le_refl _) _).trans (hb.mono (by simp))⟩
end Go.Proofs.YtlabblkonkhmgaaDoor
