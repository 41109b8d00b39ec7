/-
  New where limits or draws may not be.
-/
import Derived.Test.YtmlgjijjkikkhaaGreatDoorM4
namespace Go.Proofs.YtmlgjijjkikkhaaGreatDoor
open Go.RowKit
attribute [local go_sem] stF neqM eqS eqF
def NoM (w : World) (e : Ending) (w' : World) : Prop := e = .returned (.tuple #[.pointer none, .int .i64 1]) ∧ Below w.heap.size w w'
set_option maxRecDepth 100000 in
set_option maxHeartbeats 2000000 in
theorem new_n1 {a b c d : Int} {A : Option Addr} {n cp : Nat} {l : List Nat} {w : World} (_hn : l.length = n) (_hm : n ≤ 17592186043904) (_h : RF w w.heap.size A l) (hx : b < 0 ∨ 16777216 < b) :
    Calls Tryz.prog 7 #[.agg (celL a b c d), .slice A n cp] w (NoM w) := by
  have C1 := Lib.hid (fun W => new_no b W hx)
  have b1 := below_a1 w (.cells (celL a b c d) 23)
  have n1 := new1 w (celL a b c d) 23
  clear hx
  go_enter Tryz.func7, Tryz.ntmps7
  go_upto_region 1 with fail
  obtain ⟨W1, hW1⟩ : ∃ W1, w.alloc (.cells (celL a b c d) 23) = W1 := ⟨_, rfl⟩
  rw [hW1] at b1 n1 ⊢
  clear hW1
  have d1 : W1.cell? ⟨w.heap.size, 1, none⟩ = some (.int .i64 b) := (cell_of_row W1 _ 1 _ _ _ n1).trans rfl
  have B1 := Lib.hid b1
  clear b1 n1
  go_wp2_with fail
  refine (C1.out _).mono ?_
  rintro e w2 ⟨rfl, rfl⟩
  clear C1
  go_wp2
  go_ret2
  exact ⟨rfl, B1.out⟩
set_option maxRecDepth 100000 in
set_option maxHeartbeats 2000000 in
theorem new_n2 {a b c d : Int} {A : Option Addr} {n cp : Nat} {l : List Nat} {w : World} (hn : l.length = n) (hm : n ≤ 17592186043904) (h : RF w w.heap.size A l) (hb0 : 0 ≤ b) (hb1 : b ≤ 16777216) (hx : decide (a < 0) || !(decide (0 ≤ c) && decide (c ≤ 268435456)) || !(decide (0 ≤ d) && decide (d ≤ 256)) || !okDs l) :
    Calls Tryz.prog 7 #[.agg (celL a b c d), .slice A n cp] w (NoM w) := by
  have C1 := Lib.hid (fun W => new_ok b W hb0 hb1)
  have C2 := Lib.hid (fun W => within_any c 268435456 W)
  have C3 := Lib.hid (fun W => within_any d 256 W)
  have C4 := Lib.hid (fun W (hb : Below w.heap.size w W) => contains_wrong A n cp l W hn hm ((h.on hb).more hb.size))
  obtain ⟨tc, hc⟩ : ∃ t, (decide (0 ≤ c) && decide (c ≤ 268435456)) = t := ⟨_, rfl⟩
  obtain ⟨td, hd⟩ : ∃ t, (decide (0 ≤ d) && decide (d ≤ 256)) = t := ⟨_, rfl⟩
  obtain ⟨tt, ho⟩ : ∃ t, okDs l = t := ⟨_, rfl⟩
  obtain ⟨ta, ha⟩ : ∃ t, decide (a < 0) = t := ⟨_, rfl⟩
  rw [hc] at C2 hx
  rw [hd] at C3 hx
  rw [ho] at C4 hx
  rw [ha] at hx
  have b1 := below_a1 w (.cells (celL a b c d) 23)
  have n1 := new1 w (celL a b c d) 23
  clear hn hm h hb0 hb1 hc hd ho
  go_enter Tryz.func7, Tryz.ntmps7
  go_upto_region 1 with fail
  obtain ⟨W1, hW1⟩ : ∃ W1, w.alloc (.cells (celL a b c d) 23) = W1 := ⟨_, rfl⟩
  rw [hW1] at b1 n1 ⊢
  clear hW1
  have d1 : W1.cell? ⟨w.heap.size, 1, none⟩ = some (.int .i64 b) := (cell_of_row W1 _ 1 _ _ _ n1).trans rfl
  go_wp2_with fail
  refine (C1.out _).mono ?_
  rintro e w2 ⟨rfl, hw2⟩
  have b2 : Below W1.heap.size W1 w2 := by rw [hw2]; exact below_a1 _ _
  have n2 := (b2.block _ (Array.getElem?_eq_some_iff.1 n1).1).trans n1
  have B2 := Lib.hid (show Below w.heap.size w w2 from b1.trans (b2.mono b1.size))
  have d0 : w2.cell? ⟨w.heap.size, 0, none⟩ = some (.int .i64 a) := (cell_of_row w2 _ 0 _ _ _ n2).trans rfl
  have d2 : w2.cell? ⟨w.heap.size, 2, none⟩ = some (.int .i64 c) := (cell_of_row w2 _ 2 _ _ _ n2).trans rfl
  have d3 : w2.cell? ⟨w.heap.size, 3, none⟩ = some (.int .i64 d) := (cell_of_row w2 _ 3 _ _ _ n2).trans rfl
  clear C1 hw2 b2 n2 n1 b1 d1
  cases ta with
  | true =>
    clear C2 C3 C4 hx
    go_wp2
    go_ret2
    exact ⟨rfl, B2.out⟩
  | false =>
    cases tc with
    | false =>
      clear C3 C4 hx
      go_wp2_with fail
      refine (C2.out _).mono ?_
      rintro e w' ⟨rfl, rfl⟩
      clear C2
      go_wp2
      go_ret2
      exact ⟨rfl, B2.out⟩
    | true =>
      cases td with
      | false =>
        clear C4 hx
        go_wp2_with fail
        refine (C2.out _).mono ?_
        rintro e w' ⟨rfl, rfl⟩
        go_wp2_with fail
        refine (C3.out _).mono ?_
        rintro e w' ⟨rfl, rfl⟩
        clear C2 C3
        go_wp2
        go_ret2
        exact ⟨rfl, B2.out⟩
      | true =>
        cases tt with
        | true => simp at hx
        | false =>
          clear hx
          go_wp2_with fail
          refine (C2.out _).mono ?_
          rintro e w' ⟨rfl, rfl⟩
          go_wp2_with fail
          refine (C3.out _).mono ?_
          rintro e w' ⟨rfl, rfl⟩
          go_wp2_with fail
          refine (C4.out _ B2.out).mono ?_
          rintro e w' ⟨rfl, rfl⟩
          clear C2 C3 C4
          go_wp2
          go_ret2
          exact ⟨rfl, B2.out⟩
theorem new_no_m {a b c d : Int} {A : Option Addr} {n cp : Nat} {l : List Nat} {w : World} (hn : l.length = n) (hm : n ≤ 17592186043904) (h : RF w w.heap.size A l) (hx : (limB a b c d && okDs l) = false) :
    Calls Tryz.prog 7 #[.agg (celL a b c d), .slice A n cp] w (NoM w) := by
  by_cases hb : b < 0 ∨ 16777216 < b
  · exact new_n1 hn hm h hb
  · refine new_n2 hn hm h (by omega) (by omega) ?_
    have h0 : decide (0 ≤ b) = true := decide_eq_true (by omega)
    have h1 : decide (b ≤ 16777216) = true := decide_eq_true (by omega)
    unfold limB at hx
    rw [h0, h1] at hx
    have ha : decide (a < 0) = !decide (0 ≤ a) := by
      by_cases h : 0 ≤ a
      · simp [h]
      · simp [h]; omega
    rw [ha]
    revert hx
    cases decide (0 ≤ a) <;> cases (decide (0 ≤ c) && decide (c ≤ 268435456)) <;> cases (decide (0 ≤ d) && decide (d ≤ 256)) <;> cases okDs l <;> simp
end Go.Proofs.YtmlgjijjkikkhaaGreatDoor
