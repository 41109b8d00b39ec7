/-
  The law of how deep calls go.
-/
import Derived.Test.YtmlgjijjkikkhaaGreatDoorM14
import Derived.Test.YtmlgjijjkikkhaaGreatDoorM6
namespace Go.Proofs.YtmlgjijjkikkhaaGreatDoor
open Go.RowKit
attribute [local go_sem] stF neqM eqS eqF neqNat neqBody neqBody0
abbrev zD5 : Array Value := #[.int .i64 5, .int .i64 0, .bool false, .float .f64 0, .string ⟨#[]⟩, .int .i64 0, .string ⟨#[]⟩]
set_option maxRecDepth 100000 in
theorem eqD5 (w : World) : (binOp .eql 63 (.agg zD5) (.agg zD5)).run Tryz.prog w = .ok (.bool true) w := by kernel_rfl
attribute [local go_sem high] eqD5
theorem NatR.kh {W W' : World} {hb : Nat} {v fv : Value} (h : NatR W v fv) (k : Kh hb W W') (hn : ∀ g, W.heap[g]? ≠ none → (∃ cur, W.heap[g]? = some (.cells cur 99 (0, 0))) → g ≠ hb) : NatR W' v fv := by
  obtain ⟨g, cap, cur, e, hg, r⟩ := h
  exact ⟨g, cap, cur, e, k.oth _ _ hg (by have := hn g (by rw [hg]; simp) ⟨_, hg⟩; simpa using this) (by intro c fz e; cases e), r⟩
theorem Hp.ne {hb room used : Nat} {l : List Nat} {W : World} (h : Hp hb room used l W) {j : Nat} {c : Array Value} {ty : TypeId} {fz : Nat × Nat} (hj : W.heap[j]? = some (.cells c ty fz)) (h1 : ty ≠ 107) : j ≠ hb := by
  rintro rfl
  obtain ⟨⟨v, p1, _⟩, _⟩ := h
  rw [p1] at hj
  cases hj
  exact h1 rfl
theorem mayF : May0 obF ([] : List Nat).length := ⟨by decide, by decide, by decide, by decide, by decide, by decide, by decide, by decide, by decide, by decide, by kernel_rfl, by decide⟩
set_option maxRecDepth 100000 in
set_option maxHeartbeats 8000000 in
theorem deep_go (a b : Nat) (ha : a ≤ 255) (hb : b ≤ 255) (w : World) : Calls Tryz.prog 5 #[.int .u8 a, .int .u8 b] w fun e w' => e = .returned (.bool true) ∧ Below w.heap.size w w' := by
  have hmf : ∀ (fn : Fn) (first cap : Array Value) (w : World), (Instr.makeFunc fn first cap).run Tryz.prog w = .ok (.func fn first cap) w := fun _ _ _ _ => rfl
  have C1 := Lib.hid (fun W => new_m (a := (b : Int)) (b := 10) (c := 0) (d := (a : Int)) (A := none) (n := 0) (cp := 0) (l := []) (w := W) rfl (by omega) (RF.nil _ _ _) (by simp [limB]; omega) rfl)
  have HA := Lib.hid (And.intro ha hb)
  have ka : IntKind.i64.wrap (a : Int) = (a : Int) := by rw [IntWalk.i64_in _ (by omega)]
  have kb : IntKind.i64.wrap (b : Int) = (b : Int) := by rw [IntWalk.i64_in _ (by omega)]
  clear ha hb
  go_enter Tryz.func5, Tryz.ntmps5
  go_wp2_with fail
  refine (C1.out _).mono ?_
  rintro e w1 ⟨⟨m, hb, dr, rfl, m1, p1, hm, hb1⟩, b1⟩
  clear C1
  have M1 := Lib.hid m1
  have P1 := Lib.hid p1
  have HM := Lib.hid (And.intro hm hb1)
  have B1 := Lib.hid b1
  clear m1 p1 hm hb1 b1
  go_upto_region 6 with fail
  have b2 := below_a2 w1 (.cells #[.int .i64 0] 3) (.cells #[.int .i64 5, .bool false, .float .f64 0, .string ⟨#[]⟩, .int .i64 0] 57)
  have kc2 : ((w1.alloc (.cells #[.int .i64 0] 3)).alloc (.cells #[.int .i64 5, .bool false, .float .f64 0, .string ⟨#[]⟩, .int .i64 0] 57)).heap[w1.heap.size]? = some (.cells #[.int .i64 0] 3 (0, 0)) := ((below_a1 _ _).block _ (by simp)).trans (new1 w1 _ _)
  have kf2 : ((w1.alloc (.cells #[.int .i64 0] 3)).alloc (.cells #[.int .i64 5, .bool false, .float .f64 0, .string ⟨#[]⟩, .int .i64 0] 57)).heap[w1.heap.size + 1]? = some (.cells #[.int .i64 5, .bool false, .float .f64 0, .string ⟨#[]⟩, .int .i64 0] 57 (0, 0)) := by
    have := new1 (w1.alloc (.cells #[.int .i64 0] 3)) #[.int .i64 5, .bool false, .float .f64 0, .string ⟨#[]⟩, .int .i64 0] 57
    simpa using this
  obtain ⟨W2, hW2⟩ : ∃ W2, (w1.alloc (.cells #[.int .i64 0] 3)).alloc (.cells #[.int .i64 5, .bool false, .float .f64 0, .string ⟨#[]⟩, .int .i64 0] 57) = W2 := ⟨_, rfl⟩
  rw [hW2] at b2 kc2 kf2 ⊢
  obtain ⟨cb, hcb⟩ : ∃ cb, w1.heap.size = cb := ⟨_, rfl⟩
  have hml := M1.out.lt
  have hwl := B1.out.size
  have hpl := P1.out.lt
  rw [hcb] at kc2 kf2 hml hwl hpl ⊢
  have M2 := Lib.hid (M1.out.on b2)
  have P2 := Lib.hid (P1.out.on b2)
  have B2 := Lib.hid (B1.out.trans (b2.mono B1.out.size))
  have KC2 := Lib.hid kc2
  have KF2 := Lib.hid kf2
  have HL := Lib.hid (And.intro hml (And.intro hwl hpl))
  have C2 := Lib.hid (reg_m (F := .func 22) (c1 := .pointer (some ⟨cb, 0, none⟩)) (c2 := .pointer (some ⟨cb + 1, 0, none⟩)) M2.out rfl)
  clear b2 kc2 kf2 hW2 hcb hml hwl hpl M1 P1 B1
  go_wp2_with fail
  refine C2.out.mono ?_
  rintro e W3 ⟨rfl, ⟨nv, m3, nr3⟩, y3⟩
  have hs2 : cb + 1 < W2.heap.size := (Array.getElem?_eq_some_iff.1 KF2.out).1
  have p3 := P2.out.mc M2.out y3 (by have := HM.out; omega)
  have KC3 := Lib.hid ((y3.block _ (by omega) (by have := HL.out; omega)).trans KC2.out)
  have KF3 := Lib.hid ((y3.block _ (by omega) (by have := HL.out; omega)).trans KF2.out)
  have B3 := Lib.hid (B2.out.trans (y3.below B2.out.size (by have := HM.out; omega)))
  have hs3 : W2.heap.size ≤ W3.heap.size := y3.size
  have C3 := Lib.hid (alloc_m (y := obF) m3 rfl (by show m ≠ hb; have := HM.out; omega) p3 (by decide) mayF)
  have M3 := Lib.hid m3
  have P3 := Lib.hid p3
  have N3 := Lib.hid nr3
  have HS := Lib.hid (And.intro hs2 hs3)
  clear C2 y3 p3 m3 nr3 hs2 hs3 M2 P2 B2 KC2 KF2
  go_wp2_with fail
  refine C3.out.mono ?_
  rintro e W4 ⟨t, rfl, m4, p4, t4, ht4, k4⟩
  have hcn : cb ≠ hb := by have := HL.out; omega
  have hfn : cb + 1 ≠ hb := by have := HL.out; omega
  have kc4 := k4.oth _ _ KC3.out (fun e => hcn (Option.some.inj e)) (by intro c fz e; cases e)
  have kf4 := k4.oth _ _ KF3.out (fun e => hfn (Option.some.inj e)) (by intro c fz e; cases e)
  have n4 := N3.out.kh k4 (fun g _ hg => by obtain ⟨cur, hg⟩ := hg; exact P3.out.ne hg (by decide))
  have b4 : Below w.heap.size w W4 := B3.out.trans (k4.b.mono (Nat.le_trans (Nat.le_refl _) HM.out.2))
  have hs4 : cb + 1 < W4.heap.size := (Array.getElem?_eq_some_iff.1 kf4).1
  go_upto_region 8 with fail
  have bA := below_a1 W4 (.cells zD 63)
  have hsA : (W4.alloc (.cells zD 63)).heap.size = W4.heap.size + 1 := by simp
  obtain ⟨W5, hW5⟩ : ∃ W5, W4.alloc (.cells zD 63) = W5 := ⟨_, rfl⟩
  rw [hW5] at bA hsA ⊢
  have M5 := Lib.hid (m4.on bA)
  have P5 := Lib.hid (p4.on bA)
  have T5 := Lib.hid (t4.on bA)
  have N5 := Lib.hid (n4.on bA)
  have kc5 := (bA.block _ (show cb < W4.heap.size by omega)).trans kc4
  have kf5 := (bA.block _ hs4).trans kf4
  have f54 := frozen_of_row W5 (cb + 1) 4 _ _ kf5
  have c54 : W5.cell? ⟨cb + 1, 4, none⟩ = some (.int .i64 0) := (cell_of_row _ _ 4 _ _ _ kf5).trans rfl
  have B5 := Lib.hid (b4.trans (bA.mono b4.size))
  clear C3 b4 bA m4 p4 t4 n4 k4 kc4 kf4 ht4 M3 P3 N3 B3 KC3 KF3 hW5
  go_upto_region 9 with fail
  have hlx := HL.out
  have y6 := ey_set W5 (cb + 1) 4 (.int .i64 0)
  have kf6 : (W5.setCell ⟨cb + 1, 4, none⟩ (.int .i64 0)).heap[cb + 1]? = some (.cells #[.int .i64 5, .bool false, .float .f64 0, .string ⟨#[]⟩, .int .i64 0] 57 (0, 0)) := (heap_setCell_same _ (cb + 1) 4 _ 57 _ kf5).trans rfl
  have ds : DS (W5.setCell ⟨cb + 1, 4, none⟩ (.int .i64 0)) m cb (cb + 1) t ({ mx0 b 10 0 a hb dr with nats := nv }) 0 10 1 := by
    refine ⟨M5.out.ey y6 (by omega), rfl, ?_, ?_, (y6.block _ (by omega) (by omega)).trans kc5, kf6, ?_, ?_⟩
    · exact P5.out.kp y6 (by show cb + 1 ≠ hb; omega) (fun c fz e => by rw [kf5] at e; cases e)
    · obtain ⟨q, ht⟩ := T5.out
      exact ⟨q, (y6.block _ (Array.getElem?_eq_some_iff.1 ht).1 (fun e => by rw [e, kf5] at ht; cases ht)).trans ht⟩
    · obtain ⟨g, cap, cur, e, hg, r⟩ := N5.out
      exact ⟨g, cap, cur, e, (y6.block _ (Array.getElem?_eq_some_iff.1 hg).1 (fun e => by rw [e, kf5] at hg; cases hg)).trans hg, r⟩
    · show (0 : Int) = 0 ∧ (0 : Int) ≤ 0 ∧ (0 : Int) ≤ a ∧ (a : Int) ≤ 255 ∧ (0 : Int) ≤ b ∧ (b : Int) ≤ 255
      have := HA.out
      omega
  have b6 : Below w.heap.size w (W5.setCell ⟨cb + 1, 4, none⟩ (.int .i64 0)) := B5.out.trans (y6.below B5.out.size (by omega))
  obtain ⟨W6, hW6⟩ : ∃ W6, W5.setCell ⟨cb + 1, 4, none⟩ (.int .i64 0) = W6 := ⟨_, rfl⟩
  rw [hW6] at ds b6 kf6 ⊢
  have DS6 := Lib.hid ds
  have B6 := Lib.hid b6
  have KF6 := Lib.hid kf6
  clear hlx y6 ds b6 kf6 hsA hW6 hcn hfn hs4 kc5 kf5 f54 c54 M5 P5 T5 N5 B5
  obtain ⟨r, hr⟩ : ∃ r, (if (a : Int) - 0 ≤ (b : Int) then ((a : Int) - 0).toNat else (b : Int).toNat) = r := ⟨_, rfl⟩
  have hrr : (r : Int) ≤ a ∧ (r : Int) ≤ b ∧ ((r : Int) = a ∨ (r : Int) = b) := by split at hr <;> omega
  have C6 := Lib.hid (call_deep m cb (cb + 1) t 10 1 r W6 _ 0 DS6.out hr (by have := HA.out; omega))
  go_wp2_with (refine ldP (k := 43) (run_loadVar_row _ (cb + 1) 57 57 _ (0, 0) _ KF6.out Tryz.underlying57 rfl (by kernel_rfl)) rfl (by kernel_rfl) rfl rfl ?_)
  refine C6.out.mono ?_
  rintro e W7 ⟨k, v, s, x', rfl, ⟨rfl, rfl, rfl, ro, rc, rcb⟩, m7, z7⟩
  have b7 : Below w.heap.size w W7 := B6.out.trans (z7.below B6.out.size (by have := HM.out; have := HL.out; rintro i (h | h) <;> omega))
  have bA := below_a1 W7 (.cells (celD 5 valU ⟨#[]⟩) 63)
  have m8 := m7.on bA
  have n8 := new1 W7 (celD 5 valU ⟨#[]⟩) 63
  have rcb8 := (bA.block _ (Array.getElem?_eq_some_iff.1 rcb).1).trans rcb
  go_upto_region 10 with fail
  obtain ⟨W8, hW8⟩ : ∃ W8, W7.alloc (.cells (celD 5 valU ⟨#[]⟩) 63) = W8 := ⟨_, rfl⟩
  rw [hW8] at bA m8 n8 rcb8 ⊢
  have C8 := Lib.hid (over_m m8)
  rw [ro] at C8
  have B8 := Lib.hid (b7.trans (bA.mono b7.size))
  have c8 : W8.cell? ⟨cb, 0, none⟩ = some (.int .i64 r) := by
    have := (cell_of_row _ cb 0 _ _ _ rcb8).trans rfl
    simpa using this
  have N8 := Lib.hid (show W8.heap[W7.heap.size]? = some (.cells zD5 63 (0, 0)) from n8)
  have C9 := Lib.hid (awake_any W8)
  clear C6 m7 z7 b7 bA m8 n8 rcb8 rcb ro rc DS6 B6 KF6 hW8 hr
  by_cases hba : (b : Int) < (a : Int)
  · have q1 : decide ((b : Int) < (a : Int)) = true := decide_eq_true hba
    have q2 : r = b := by omega
    subst q2
    clear hrr
    go_wp2_with (refine ldP (k := 54) (run_loadVar_row _ W7.heap.size 63 63 zD5 (0, 0) _ N8.out Tryz.underlying63 rfl (by kernel_rfl)) rfl (by kernel_rfl) rfl rfl ?_)
    refine C8.out.mono ?_
    rintro e w' ⟨rfl, rfl⟩
    go_wp2_with fail
    refine C9.out.mono ?_
    rintro e W9 ⟨rfl, b9⟩
    have B9 := Lib.hid (B8.out.trans (b9.mono B8.out.size))
    clear b9 C8 C9 N8 c8
    go_wp2
    go_ret
    exact ⟨rfl, B9.out⟩
  · have q1 : decide ((b : Int) < (a : Int)) = false := decide_eq_false hba
    have q2 : r = a := by omega
    subst q2
    clear hrr
    go_wp2_with (refine ldP (k := 54) (run_loadVar_row _ W7.heap.size 63 63 zD5 (0, 0) _ N8.out Tryz.underlying63 rfl (by kernel_rfl)) rfl (by kernel_rfl) rfl rfl ?_)
    refine C8.out.mono ?_
    rintro e w' ⟨rfl, rfl⟩
    go_wp2_with fail
    refine C9.out.mono ?_
    rintro e W9 ⟨rfl, b9⟩
    have B9 := Lib.hid (B8.out.trans (b9.mono B8.out.size))
    clear b9 C8 C9 N8 c8
    go_wp2
    go_ret
    exact ⟨rfl, B9.out⟩
end Go.Proofs.YtmlgjijjkikkhaaGreatDoor
