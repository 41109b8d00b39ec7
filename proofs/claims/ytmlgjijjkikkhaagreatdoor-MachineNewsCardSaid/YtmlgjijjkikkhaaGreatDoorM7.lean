/-
  New of the document.
-/
import Derived.Test.YtmlgjijjkikkhaaGreatDoorM5
namespace Go.Proofs.YtmlgjijjkikkhaaGreatDoor
open Go.RowKit
attribute [local go_sem] stF neqM eqS eqF
set_option maxRecDepth 100000 in
set_option maxHeartbeats 1000000 in
theorem rheap_new (n : Int) (w : World) (h0 : 0 ≤ n) (h1 : n ≤ 16777216) : Calls Tryz.prog 37 #[.int .i64 n] w fun e w' => (∃ q, e = .returned (.tuple #[.pointer (some ⟨q, 0, none⟩), .int .i64 0])) ∧ Below w.heap.size w w' := by
  have q1 : decide (n < 0) = false := by simpa using h0
  have q2 : decide (16777216 < n) = false := by simpa using h1
  have HB := Lib.hid (fun X => below_a1 w X)
  clear h0 h1
  go_enter Tryz.func37, Tryz.ntmps37
  go_wp2
  go_ret2
  exact ⟨⟨_, rfl⟩, HB.out _⟩
/-- Draws looked at up to k. -/
theorem ok_take {l : List Nat} {k x : Nat} (hx : l[k]? = some x) : okDs (l.take (k + 1)) = (okDs (l.take k) && okD x) := by
  unfold okDs
  rw [List.take_add_one, hx]
  simp [List.all_append]
abbrev celR (a b c d : Int) (h ks dr : Value) : Array Value := #[.int .i64 a, .int .i64 b, .int .i64 c, .int .i64 d, h, .slice none 0 0, .slice none 0 0, .slice none 0 0, ks, dr, .int .i64 0, .int .i64 a, .int .i64 0, .bool false, .bool false, .slice none 0 0, .int .i64 0, .slice none 0 0, .slice none 0 0, .int .i64 0, .float .f64 0, .slice none 0 0]
/-- What New of the document tells. -/
def RNewM (a : Int) (w : World) (e : Ending) (w' : World) : Prop := (∃ r, e = .returned (.tuple #[.pointer (some ⟨r, 0, none⟩), .int .i64 0]) ∧ w'.cell? ⟨r, 11, none⟩ = some (.int .i64 a)) ∧ Below w.heap.size w w'
set_option maxRecDepth 100000 in
set_option maxHeartbeats 4000000 in
theorem rnew_lim {a b c d : Int} {A : Option Addr} {n cp : Nat} {l : List Nat} {w : World} (hn : l.length = n) (hm : n ≤ 17592186043904) (h : RF w w.heap.size A l) (hl : limB a b c d = false) :
    Calls Tryz.prog 8 #[.agg (celL a b c d), .slice A n cp] w (NoM w) := by
  have b1 := below_a1 w (.cells (celL a b c d) 23)
  have n1 := new1 w (celL a b c d) 23
  have HN := Lib.hid hn
  have HM := Lib.hid hm
  have HR := Lib.hid h
  clear hn hm h
  have hz : ¬ (0 ≤ a) ∨ (0 ≤ a ∧ ¬ (0 ≤ b)) ∨ (0 ≤ a ∧ 0 ≤ b ∧ ¬ (b ≤ 16777216)) ∨ (0 ≤ a ∧ 0 ≤ b ∧ b ≤ 16777216 ∧ ¬ (0 ≤ c)) ∨ (0 ≤ a ∧ 0 ≤ b ∧ b ≤ 16777216 ∧ 0 ≤ c ∧ ¬ (c ≤ 268435456)) ∨ (0 ≤ a ∧ 0 ≤ b ∧ b ≤ 16777216 ∧ 0 ≤ c ∧ c ≤ 268435456 ∧ ¬ (0 ≤ d)) ∨ (0 ≤ a ∧ 0 ≤ b ∧ b ≤ 16777216 ∧ 0 ≤ c ∧ c ≤ 268435456 ∧ 0 ≤ d ∧ ¬ (d ≤ 256)) := by
    have hx : ¬ (limB a b c d = true) := by rw [hl]; simp
    simp only [limB, Bool.and_eq_true, decide_eq_true_eq] at hx
    omega
  clear hl
  have key : ∀ (ts : Array Value), True := fun _ => trivial
  rcases hz with h | ⟨h0, h⟩ | ⟨h0, h1, h⟩ | ⟨h0, h1, h2, h⟩ | ⟨h0, h1, h2, h3, h⟩ | ⟨h0, h1, h2, h3, h4, h⟩ | ⟨h0, h1, h2, h3, h4, h5, h⟩
  all_goals
    clear key
    go_enter Tryz.func8, Tryz.ntmps8
    go_upto_region 1 with fail
    obtain ⟨W1, hW1⟩ : ∃ W1, w.alloc (.cells (celL a b c d) 23) = W1 := ⟨_, rfl⟩
    rw [hW1] at b1 n1 ⊢
    clear hW1
    have d0 : W1.cell? ⟨w.heap.size, 0, none⟩ = some (.int .i64 a) := (cell_of_row W1 _ 0 _ _ _ n1).trans rfl
    have d1 : W1.cell? ⟨w.heap.size, 1, none⟩ = some (.int .i64 b) := (cell_of_row W1 _ 1 _ _ _ n1).trans rfl
    have d2 : W1.cell? ⟨w.heap.size, 2, none⟩ = some (.int .i64 c) := (cell_of_row W1 _ 2 _ _ _ n1).trans rfl
    have d3 : W1.cell? ⟨w.heap.size, 3, none⟩ = some (.int .i64 d) := (cell_of_row W1 _ 3 _ _ _ n1).trans rfl
    have B1 := Lib.hid b1
    have N1 := Lib.hid n1
    clear b1 n1
    go_upto_region 2 with fail
    clear d0 d1 d2 d3
    go_wp2_with fail
    go_loopw [6, 7] (fun v6 v7 wr => ∃ k : Nat, v6 = .bool false ∧ v7 = .int .i64 (k : Nat) ∧ Hid (k ≤ n) ∧ wr = W1) (fun _ v7 _ => ((n : Int) - intOf v7).toNat)
    case atStart => exact ⟨0, rfl, rfl, Lib.hid (Nat.zero_le _), rfl⟩
    case round =>
      obtain ⟨k, rfl, rfl, HK, rfl⟩ := hrel
      by_cases hkn : k < n
      · have hm' := HM.out
        have t1 : decide ((k : Int) < (n : Int)) = true := decide_eq_true (by omega)
        have t2 : (k : Int) < (n : Int) := by omega
        have k1 : IntKind.i64.wrap ((k : Int) + 1) = ((k + 1 : Nat) : Int) := by rw [IntWalk.i64_in _ (by omega)]; omega
        have HKN := Lib.hid hkn
        clear hkn hm'
        go_wp2
        go_roundw
        case rel => exact ⟨k + 1, rfl, by go_num, Lib.hid (by have := HKN.out; omega), by trivial⟩
        case measure => have := HKN.out; simp [intOf]; omega
      · have t1 : decide ((k : Int) < (n : Int)) = false := decide_eq_false (by omega)
        have t2 : ¬ ((k : Int) < (n : Int)) := by omega
        clear hkn
        go_wp2
        go_ret2
        exact ⟨rfl, B1.out⟩
end Go.Proofs.YtmlgjijjkikkhaaGreatDoor
