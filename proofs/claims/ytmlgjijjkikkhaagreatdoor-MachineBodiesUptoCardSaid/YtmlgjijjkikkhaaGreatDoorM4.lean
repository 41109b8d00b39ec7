/-
  New of the program.
-/
import Derived.Test.YtmlgjijjkikkhaaGreatDoorM3
namespace Go.Proofs.YtmlgjijjkikkhaaGreatDoor
open Go.RowKit
attribute [local go_sem] stF neqM eqS eqF
/-- May limits be? -/
def limB (a b c d : Int) : Bool := decide (0 ≤ a) && (decide (0 ≤ b) && decide (b ≤ 16777216)) && (decide (0 ≤ c) && decide (c ≤ 268435456)) && (decide (0 ≤ d) && decide (d ≤ 256))
abbrev celL (a b c d : Int) : Array Value := #[.int .i64 a, .int .i64 b, .int .i64 c, .int .i64 d]
/-- A machine that was made just now. -/
def mx0 (a b c d : Int) (hb : Nat) (dr : Value) : Mx := { ov := false, l0 := a, l1 := b, l2 := c, l3 := d, left := a, hb := hb, kn := fun _ => -1, dr := dr, dn := 0, nats := .slice none 0 0, body := .nilFunc, codes := .slice none 0 0, envs := .slice none 0 0, calls := 0, nest := 0 }
/-- A heap stays where another block than its is turned. -/
theorem Hp.kp {hb room used : Nat} {l : List Nat} {W W' : World} {g : Nat} (h : Hp hb room used l W) (k : Ey W.heap.size g W W') (hn : g ≠ hb) (ht : ∀ c fz, W.heap[g]? ≠ some (.cells c 116 fz)) : Hp hb room used l W' := by
  obtain ⟨⟨v, h1, h2⟩, h3⟩ := h
  refine ⟨⟨v, (k.block _ (Array.getElem?_eq_some_iff.1 h1).1 (Ne.symm hn)).trans h1, h2.kept (row := some g) ⟨k.os, k.tape, k.output, k.size, fun j hj hjn => k.block j hj (fun e => hjn (by rw [e]))⟩ ?_⟩, h3⟩
  rcases h2.2 with ⟨hv, _⟩ | ⟨q, cap, cur, hv, _, hg, _⟩
  · exact .inl (by rw [hv]; rfl)
  · refine .inr (fun e => ?_)
    rw [hv] at e
    simp [Value.ownBlock] at e
    subst e
    exact ht _ _ hg
theorem Hp.mc {hb room used : Nat} {l : List Nat} {W W' : World} {m : Nat} {x : Mx} (h : Hp hb room used l W) (hm : Mc W m x) (k : Ey W.heap.size m W W') (hn : m ≠ hb) : Hp hb room used l W' :=
  h.kp k hn (fun c fz e => by rw [show W.heap[m]? = _ from hm] at e; cases e)
/-- The same, with the first k of what is known. -/
def mxK (a b c d : Int) (hb : Nat) (dr : Value) (k : Nat) : Mx := { ov := false, l0 := a, l1 := b, l2 := c, l3 := d, left := a, hb := hb, kn := fun j => if j < k then -1 else 0, dr := dr, dn := 0, nats := .slice none 0 0, body := .nilFunc, codes := .slice none 0 0, envs := .slice none 0 0, calls := 0, nest := 0 }
theorem mxK_step (a b c d : Int) (hb : Nat) (dr : Value) (k : Nat) (hk : k < 15) : (celM (mxK a b c d hb dr k)).setIfInBounds (8 + k) (.int .i64 (-1)) = celM (mxK a b c d hb dr (k + 1)) := by
  rcases k with _ | _ | _ | _ | _ | _ | _ | _ | _ | _ | _ | _ | _ | _ | _ | k
  all_goals first | rfl | omega
theorem mxK_get (a b c d : Int) (hb : Nat) (dr : Value) (k : Nat) (hk : k < 15) : (celM (mxK a b c d hb dr k))[8 + k]? = some (.int .i64 0) := by
  rcases k with _ | _ | _ | _ | _ | _ | _ | _ | _ | _ | _ | _ | _ | _ | _ | k
  all_goals first | rfl | omega
theorem mxK_all (a b c d : Int) (hb : Nat) (dr : Value) : celM (mxK a b c d hb dr 15) = celM (mx0 a b c d hb dr) := rfl
/-- What New tells of limits and draws that may be. -/
def NewM (a b c d : Int) (w : World) (e : Ending) (w' : World) : Prop := (∃ m hb dr, e = .returned (.tuple #[.pointer (some ⟨m, 0, none⟩), .int .i64 0]) ∧ Mc w' m (mx0 a b c d hb dr) ∧ Hp hb b.toNat 0 [] w' ∧ hb < m ∧ w.heap.size ≤ hb) ∧ Below w.heap.size w w'
set_option maxRecDepth 100000 in
set_option maxHeartbeats 2000000 in
theorem new_m {a b c d : Int} {A : Option Addr} {n cp : Nat} {l : List Nat} {w : World} (hn : l.length = n) (hm : n ≤ 17592186043904) (h : RF w w.heap.size A l) (hl : limB a b c d = true) (hd : okDs l = true) :
    Calls Tryz.prog 7 #[.agg (celL a b c d), .slice A n cp] w (NewM a b c d w) := by
  simp only [limB, Bool.and_eq_true, decide_eq_true_eq] at hl
  obtain ⟨⟨⟨ha, hb0, hb1⟩, hc0, hc1⟩, hd0, hd1⟩ := hl
  have C1 := Lib.hid (fun W => new_ok b W hb0 hb1)
  have C2 := Lib.hid (fun W => show Calls Tryz.prog 33 #[.int .i64 c, .int .i64 268435456] W fun e w' => e = .returned (.bool true) ∧ W = w' by have := within_any c 268435456 W; simpa [hc0, hc1] using this)
  have C3 := Lib.hid (fun W => show Calls Tryz.prog 33 #[.int .i64 d, .int .i64 256] W fun e w' => e = .returned (.bool true) ∧ W = w' by have := within_any d 256 W; simpa [hd0, hd1] using this)
  have C4 := Lib.hid (fun W (hb : Below w.heap.size w W) => show Calls Tryz.prog 34 #[.slice A n cp, .func (.func 35) #[] #[]] W fun e w' => e = .returned (.bool false) ∧ W = w' by have := contains_wrong A n cp l W hn hm ((h.on hb).more hb.size); rw [hd] at this; exact this)
  have C5 := Lib.hid (fun W (hb : Below w.heap.size w W) => show Calls Tryz.prog 36 #[.slice A n cp] W fun e w' => (∃ B k q, e = .returned (.slice B k q)) ∧ Below W.heap.size W w' from clone_f hn hm ((h.on hb).more hb.size))
  have q0 : decide (a < 0) = false := decide_eq_false (by omega)
  have HB := Lib.hid (And.intro hb0 hb1)
  have b1 := below_a1 w (.cells (celL a b c d) 23)
  have n1 := new1 w (celL a b c d) 23
  clear hn hm h hd ha hb0 hb1 hc0 hc1 hd0 hd1
  go_enter Tryz.func7, Tryz.ntmps7
  go_upto_region 1 with fail
  obtain ⟨W1, hW1⟩ : ∃ W1, w.alloc (.cells (celL a b c d) 23) = W1 := ⟨_, rfl⟩
  rw [hW1] at b1 n1 ⊢
  clear hW1
  have d1 : W1.cell? ⟨w.heap.size, 1, none⟩ = some (.int .i64 b) := (cell_of_row W1 _ 1 _ _ _ n1).trans rfl
  go_wp2_with fail
  refine (C1.out _).mono ?_
  rintro e w2 ⟨rfl, hw2⟩
  have b2 : Below W1.heap.size W1 w2 := by rw [hw2]; exact below_a1 _ _
  have p2 : Hp W1.heap.size b.toNat 0 [] w2 := by
    rw [hw2]
    have := Hp.new b.toNat W1 (by have := HB.out; omega)
    rwa [show ((b.toNat : Nat) : Int) = b by have := HB.out; omega] at this
  have HW := Lib.hid (show w.heap.size < W1.heap.size from (Array.getElem?_eq_some_iff.1 n1).1)
  have n2 := (b2.block _ HW.out).trans n1
  have B2 := Lib.hid (show Below w.heap.size w w2 from b1.trans (b2.mono b1.size))
  have P2 := Lib.hid p2
  have d0 : w2.cell? ⟨w.heap.size, 0, none⟩ = some (.int .i64 a) := (cell_of_row w2 _ 0 _ _ _ n2).trans rfl
  have d2 : w2.cell? ⟨w.heap.size, 2, none⟩ = some (.int .i64 c) := (cell_of_row w2 _ 2 _ _ _ n2).trans rfl
  have d3 : w2.cell? ⟨w.heap.size, 3, none⟩ = some (.int .i64 d) := (cell_of_row w2 _ 3 _ _ _ n2).trans rfl
  have N2 := Lib.hid n2
  clear C1 hw2 b2 p2 n2 n1 b1 d1
  go_wp2_with fail
  refine (C2.out _).mono ?_
  rintro e w' ⟨rfl, rfl⟩
  go_wp2_with fail
  refine (C3.out _).mono ?_
  rintro e w' ⟨rfl, rfl⟩
  go_wp2_with fail
  refine (C4.out _ B2.out).mono ?_
  rintro e w' ⟨rfl, rfl⟩
  clear C2 C3 C4 q0
  go_upto_region 4 with fail
  refine wp_region_held_drew (S := fun W => W.heap[w.heap.size]? = some (.cells (celL a b c d) 23 (0, 0))) (by kernel_rfl) N2.out (fun hHeld => ?_)
  refine take_s (v := .agg (celL a b c d)) (i := 0) rfl (by kernel_rfl) (by kernel_rfl) (by kernel_rfl) (fun _ _ _ h => h) (Or.inl ⟨by rfl, by (intro w' hSw; exact ldRow_run (run_loadVar_row w' w.heap.size 23 23 (celL a b c d) (0, 0) _ hSw Tryz.underlying23 rfl (by kernel_rfl)) rfl rfl)⟩) rfl (by assumption) ?_; simp only [lset]
  refine take_s (i := 1) rfl (by kernel_rfl) (by kernel_rfl) (by kernel_rfl) (fun _ _ _ h => h) (Or.inl ⟨by rfl, by (intro w' hSw; go_simp; try with_reducible rfl)⟩) rfl (by assumption) ?_; simp only [lset]
  refine take_s (v := .int .i64 a) (i := 2) rfl (by kernel_rfl) (by kernel_rfl) (by kernel_rfl) (fun _ _ _ h => h) (Or.inl ⟨by rfl, by (intro w' hSw; have c := (cell_of_row w' w.heap.size 0 _ _ _ hSw).trans (show (celL a b c d)[0]? = some (.int .i64 a) from rfl); go_simp)⟩) rfl (by assumption) ?_; simp only [lset]
  refine take_s (i := 3) rfl (by kernel_rfl) (by kernel_rfl) (by kernel_rfl) (fun _ _ _ h => h) (Or.inl ⟨by rfl, by (intro w' hSw; go_simp; try with_reducible rfl)⟩) rfl (by assumption) ?_; simp only [lset]
  refine take_s (i := 4) rfl (by kernel_rfl) (by kernel_rfl) (by kernel_rfl) (fun _ _ _ h => h) (Or.inl ⟨by rfl, by (intro w' hSw; go_simp; try with_reducible rfl)⟩) rfl (by assumption) ?_; simp only [lset]
  refine call_s (i := 5) (by kernel_rfl) rfl rfl (by rfl) (fun K hK => ?_)
  go_simp
  with_reducible refine (C5.out _ B2.out.drew).mono ?_
  rintro e w3 ⟨⟨dB, dk, dq, rfl⟩, b3⟩
  have hHeld3 : w3.heap[w.heap.size]? = some (.cells (celL a b c d) 23 (0, 0)) := (b3.block _ (show w.heap.size < w2.drew.heap.size from by have := B2.out.size; have := P2.out.lt; show w.heap.size < w2.heap.size; have := HW.out; omega)).trans N2.out
  have B3 := Lib.hid (show Below w.heap.size w w3 from B2.out.drew.trans (b3.mono (show w.heap.size ≤ w2.heap.size from B2.out.size)))
  have P3 := Lib.hid ((show Hp W1.heap.size b.toNat 0 [] w2.drew from P2.out.on (Below.refl _ _).drew).on b3)
  clear hHeld C5 b3 P2 B2 d0 d2 d3 N2
  have hHeld := hHeld3
  clear hHeld3
  refine hK.out _ _ hHeld ?_; clear hK K; simp only [lset]
  refine take_s (i := 6) rfl (by kernel_rfl) (by kernel_rfl) (by kernel_rfl) (fun _ _ _ h => h) (Or.inl ⟨by rfl, by (intro w' hSw; go_simp; try with_reducible rfl)⟩) rfl (by assumption) ?_; simp only [lset]
  refine call_s (i := 7) (by kernel_rfl) rfl rfl (by rfl) (fun K hK => ?_)
  go_simp
  have m3 : Mc (w3.alloc (.cells (celM (mxK a b c d W1.heap.size (.slice dB dk dq) 0)) 91)) w3.heap.size (mxK a b c d W1.heap.size (.slice dB dk dq) 0) := new1 w3 _ _
  have hHeld3 : (w3.alloc (.cells (celM (mxK a b c d W1.heap.size (.slice dB dk dq) 0)) 91)).heap[w.heap.size]? = some (.cells (celL a b c d) 23 (0, 0)) := ((below_a1 w3 _).block _ (Array.getElem?_eq_some_iff.1 hHeld).1).trans hHeld
  have B4 := Lib.hid (B3.out.trans ((below_a1 w3 (.cells (celM (mxK a b c d W1.heap.size (.slice dB dk dq) 0)) 91)).mono B3.out.size))
  have P4 := Lib.hid (P3.out.on (below_a1 w3 (.cells (celM (mxK a b c d W1.heap.size (.slice dB dk dq) 0)) 91)))
  have HM := Lib.hid (show W1.heap.size < w3.heap.size from P3.out.lt)
  clear hHeld
  have hHeld := hHeld3
  clear hHeld3 B3 P3
  refine hK.out _ (w3.alloc (.cells (celM (mxK a b c d W1.heap.size (.slice dB dk dq) 0)) 91)) hHeld ?_; clear hK K; simp only [lset]
  refine take_s (i := 8) rfl (by kernel_rfl) (by kernel_rfl) (by kernel_rfl) (fun _ _ _ h => h) (Or.inl ⟨by rfl, by (intro w' hSw; go_simp; try with_reducible rfl)⟩) rfl (by assumption) ?_; simp only [lset]
  refine wpAnyH_done (by kernel_rfl) ?_ _
  clear hHeld
  obtain ⟨W4, hW4⟩ : ∃ W4, w3.alloc (.cells (celM (mxK a b c d W1.heap.size (.slice dB dk dq) 0)) 91) = W4 := ⟨_, rfl⟩
  have HL4 := Lib.hid (show w3.heap.size < W4.heap.size by rw [← hW4]; simp)
  rw [hW4] at m3 B4 P4 ⊢
  obtain ⟨m, hm⟩ : ∃ m, w3.heap.size = m := ⟨_, rfl⟩
  obtain ⟨hb, hhb⟩ : ∃ hb, W1.heap.size = hb := ⟨_, rfl⟩
  rw [hm, hhb] at m3 ⊢
  rw [hm] at HL4
  rw [hm, hhb] at HM
  rw [hhb] at P4 HW
  have M4 := Lib.hid m3
  clear m3
  clear hW4 hm hhb
  have HNm := Lib.hid (show w.heap.size < m by have := HM.out; have := HW.out; omega)
  go_wp2_with fail
  go_loopw [47] (fun v47 wr => ∃ k : Nat, v47 = .int .i64 (k : Nat) ∧ Hid (k ≤ 15) ∧ Hid (Mc wr m (mxK a b c d hb (.slice dB dk dq) k)) ∧ Hid (Hp hb b.toNat 0 [] wr) ∧ Hid (Below w.heap.size w wr)) (fun v47 _ => (15 - intOf v47).toNat)
  case atStart => exact ⟨0, rfl, Lib.hid (by omega), M4, P4, B4⟩
  case round =>
    obtain ⟨k, rfl, HK, MK, PK, BK⟩ := hrel
    by_cases hkn : k < 15
    · have t1 : decide ((k : Int) < 15) = true := decide_eq_true (by omega)
      have t2 : (k : Int) < 15 := by omega
      have t3 : (0 : Int) ≤ (k : Int) := by omega
      have k1 : IntKind.i64.wrap ((k : Int) + 1) = ((k + 1 : Nat) : Int) := by rw [IntWalk.i64_in _ (by omega)]; omega
      have c8 : wr.cell? ⟨m, 8 + k, none⟩ = some (.int .i64 0) := MK.out.cell (mxK_get _ _ _ _ _ _ k hkn)
      have f8 := MK.out.frozen (8 + k)
      have M2 := Lib.hid (MK.out.set (8 + k) (.int .i64 (-1)) _ (mxK_step _ _ _ _ _ _ k hkn))
      have P2 := Lib.hid (show Hp hb b.toNat 0 [] (wr.setCell ⟨m, 8 + k, none⟩ (.int .i64 (-1))) from PK.out.mc MK.out (ey_set wr m (8 + k) (.int .i64 (-1))) (by have := HM.out; omega))
      have B2 := Lib.hid (show Below w.heap.size w (wr.setCell ⟨m, 8 + k, none⟩ (.int .i64 (-1))) from BK.out.trans ((ey_set wr m (8 + k) (.int .i64 (-1))).below BK.out.size (by have := HNm.out; omega)))
      have HKN := Lib.hid hkn
      clear hkn MK PK BK M4 P4 B4
      go_wp2
      go_roundw
      case rel => exact ⟨k + 1, by go_num, Lib.hid (by have := HKN.out; omega), M2, P2, B2⟩
      case measure => have := HKN.out; simp [intOf]; omega
    · have t1 : decide ((k : Int) < 15) = false := decide_eq_false (by omega)
      have t2 : ¬ ((k : Int) < 15) := by omega
      have hk : k = 15 := by have := HK.out; omega
      rw [hk] at MK
      clear hkn hk
      go_wp2
      go_ret2
      exact ⟨⟨m, hb, _, rfl, MK.out, PK.out, HM.out, Nat.le_of_lt HW.out⟩, BK.out⟩
end Go.Proofs.YtmlgjijjkikkhaaGreatDoor
