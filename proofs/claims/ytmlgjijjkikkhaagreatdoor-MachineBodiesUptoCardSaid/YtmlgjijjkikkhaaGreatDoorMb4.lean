/-
  The law of bodies.
-/
import Derived.Test.YtmlgjijjkikkhaaGreatDoorMb3
import Derived.Test.YtmlgjijjkikkhaaGreatDoorM6
namespace Go.Proofs.YtmlgjijjkikkhaaGreatDoor
open Go.RowKit
attribute [local go_sem] stF neqM eqS eqF neqNat neqBody neqBody0
set_option maxRecDepth 100000 in
theorem neD0 (w : World) : (binOp .neq 63 (.agg (celD 0 valU ⟨#[]⟩)) (.agg zD)).run Tryz.prog w = .ok (.bool false) w := by kernel_rfl
attribute [local go_sem high] neD0
theorem HpNe {hb room used : Nat} {l : List Nat} {W : World} (h : Hp hb room used l W) {j : Nat} {c : Array Value} {ty : TypeId} {fz : Nat × Nat} (hj : W.heap[j]? = some (.cells c ty fz)) (h1 : ty ≠ 107) : j ≠ hb := by
  rintro rfl
  obtain ⟨⟨v, p1, _⟩, _⟩ := h
  rw [p1] at hj
  cases hj
  exact h1 rfl
theorem ey_row (w : World) (g : Nat) (c : Array Value) : Ey w.heap.size g w (w.setRow g c) :=
  ⟨rfl, rfl, rfl, by simp, fun j _ hj => setRow_other _ _ _ _ hj⟩
theorem wp_val {P : Program} {o : Oper} {a : Act} {w : World} {K : Act → World → Prop} {Q : Exit → Act → World → Prop} {v : Value} (h : (execOp a.eval o).run P w = .ok (.value v) w) (hk : K (a.put o.dst v) w) : Oper.wp P o a w K Q := by
  unfold Oper.wp
  rw [h]
  exact hk
theorem mayB1 : May0 obB ([] : List Nat).length := ⟨by decide, by decide, by decide, by decide, by decide, by decide, by decide, by decide, by decide, by decide, by kernel_rfl, by decide⟩
theorem ldSegW {W : World} {g : Nat} {i : Int} {v : Val} {s : Value} (hg : W.heap[g]? = some (.cells (celE i v s) 61 (0, 0))) : (loadVar 57 ⟨g, 1, none⟩).run Tryz.prog W = .ok (.agg (celX v)) W :=
  run_load_seg (P := Tryz.prog) W g 1 5 61 57 _ (0, 0) _ hg Tryz.underlying57 rfl (by kernel_rfl) (by show 1 + 5 ≤ 8; omega)
theorem clnV_size {v : Val} (h : v.vs.size ≤ maxLen) : (clnV v).vs.size ≤ maxLen := by
  unfold clnV
  split
  · exact h
  · show (0 : Nat) ≤ maxLen
    omega
theorem endK_in (k : Int) : 0 ≤ endK k ∧ endK k ≤ 4 := by
  unfold endK
  split <;> omega
theorem endL_low {k : Int} {s : ByteArray} (h : endK k < 3) : endL k s = ⟨#[]⟩ := if_pos h
set_option maxRecDepth 100000 in
set_option maxHeartbeats 16000000 in
theorem bodies_go {k : Int} {v v0 : Val} {s : ByteArray} {l : List Val} {A : Option Addr} {c : Nat} {w : World} (hs : s.size ≤ maxLen) (hv : ValsAt w.heap.size w l A c) :
    Calls Tryz.prog 6 #[.agg (celD k v s), .agg (celX v0), .slice A l.length c] w fun e w' => e = .returned (.bool true) ∧ Below w.heap.size w w' := by
  have hmf : ∀ (fn : Fn) (first cap : Array Value) (w : World), (Instr.makeFunc fn first cap).run Tryz.prog w = .ok (.func fn first cap) w := fun _ _ _ _ => rfl
  have CD := Lib.hid (fun W => done_any k v s W hs)
  have CC := Lib.hid (fun W => clean_any v0 W)
  have HV := Lib.hid hv
  have HSZ := Lib.hid (And.intro hv.mx hv.sz)
  have hke := endK_in k
  have HEL := Lib.hid (show endK k < 3 → endL k s = ⟨#[]⟩ from endL_low)
  obtain ⟨ke, hkeq⟩ : ∃ ke, endK k = ke := ⟨_, rfl⟩
  obtain ⟨ve, hveq⟩ : ∃ ve, clnV v = ve := ⟨_, rfl⟩
  obtain ⟨se, hseq⟩ : ∃ se, endL k s = se := ⟨_, rfl⟩
  obtain ⟨v1, hv1⟩ : ∃ v1, clnV v0 = v1 := ⟨_, rfl⟩
  rw [hkeq, hveq, hseq] at CD
  rw [hkeq, hseq] at HEL
  rw [hkeq] at hke
  rw [hv1] at CC
  have HKE := Lib.hid hke
  clear hke hkeq hveq hseq hv1 hs hv
  have b0 := below_a2 w (.cells (celD k v s) 63) (.cells (celX v0) 57)
  have n0 : ((w.alloc (.cells (celD k v s) 63)).alloc (.cells (celX v0) 57)).heap[w.heap.size]? = some (.cells (celD k v s) 63 (0, 0)) := ((below_a1 _ _).block _ (by simp)).trans (new1 w _ _)
  have n1 : ((w.alloc (.cells (celD k v s) 63)).alloc (.cells (celX v0) 57)).heap[w.heap.size + 1]? = some (.cells (celX v0) 57 (0, 0)) := by
    have := new1 (w.alloc (.cells (celD k v s) 63)) (celX v0) 57
    simpa using this
  go_enter Tryz.func6, Tryz.ntmps6
  go_upto_region 1 with fail
  obtain ⟨W0, hW0⟩ : ∃ W0, (w.alloc (.cells (celD k v s) 63)).alloc (.cells (celX v0) 57) = W0 := ⟨_, rfl⟩
  rw [hW0] at b0 n0 n1 ⊢
  clear hW0
  have C1 := Lib.hid (fun W => usual_any W)
  have C2 := Lib.hid (fun W => new_m (a := 100) (b := 100) (c := 100) (d := 10) (A := none) (n := 0) (cp := 0) (l := []) (w := W) rfl (by omega) (RF.nil _ _ _) (by decide) rfl)
  go_wp2_with fail
  refine (C1.out _).mono ?_
  rintro e W1 ⟨rfl, b1⟩
  go_wp2_with fail
  refine (C2.out W1).mono ?_
  rintro e W2 ⟨⟨m, hb, dr, rfl, m2, p2, hm, hb1⟩, b2⟩
  have s0 : w.heap.size + 1 < W0.heap.size := (Array.getElem?_eq_some_iff.1 n1).1
  have s1 := b1.size
  have s2 := b2.size
  have N0 := Lib.hid ((b2.block _ (by omega)).trans ((b1.block _ (by omega)).trans n0))
  have N1 := Lib.hid ((b2.block _ (by omega)).trans ((b1.block _ s0).trans n1))
  have B2 := Lib.hid (b0.trans ((b1.mono b0.size).trans (b2.mono (Nat.le_trans b0.size s1))))
  have M2 := Lib.hid m2
  have P2 := Lib.hid p2
  have HM := Lib.hid (show hb < m ∧ w.heap.size + 1 < hb by omega)
  clear C1 C2 b0 n0 n1 b1 b2 m2 p2 hm hb1 s0 s1 s2
  go_upto_region 4 with fail
  have HV2 := Lib.hid ((HV.out.on B2.out).more B2.out.size)
  have CA := Lib.hid (fun W (hb : Below W2.heap.size W2 W) => cleanAll_any ((HV2.out.on hb).more hb.size))
  clear HV HV2
  refine wp_region_held_drew (S := fun _ => True) (by kernel_rfl) trivial (fun hHeld => ?_)
  refine take_s (i := 4) rfl (by kernel_rfl) (by kernel_rfl) (by kernel_rfl) (fun _ _ _ h => h) (Or.inl ⟨by rfl, by (intro w' hSw; go_simp; try with_reducible rfl)⟩) rfl (by assumption) ?_; simp only [lset]
  refine call2_s (i := 0) (j := 2) (by kernel_rfl) rfl rfl (by rfl) rfl rfl (by rfl) (fun K hK => ?_) (fun K hK => ?_)
  · skip
    refine wp_val (v := .agg (celD k v s)) (ldRow_run (run_loadVar_row _ w.heap.size 63 63 (celD k v s) (0, 0) _ N0.out Tryz.underlying63 rfl (by kernel_rfl)) rfl rfl) ?_
    refine hK.out _ _ trivial ?_; clear hK K; simp only [lset]
    refine call2_s (i := 1) (j := 2) (by kernel_rfl) rfl rfl (by rfl) rfl rfl (by rfl) (fun K hK => ?_) (fun K hK => ?_)
    · skip
      go_simp
      refine (CD.out W2.drew).mono ?_
      rintro e W3 ⟨rfl, b3⟩
      refine hK.out _ _ trivial ?_; clear hK K CD; simp only [lset]
      have R0 := Lib.hid ((b3.block _ (show w.heap.size < W2.heap.size by have := HM.out; have := P2.out.lt; omega)).trans (show W2.drew.heap[w.heap.size]? = _ from N0.out))
      have R1 := Lib.hid ((b3.block _ (show w.heap.size + 1 < W2.heap.size by have := HM.out; have := P2.out.lt; omega)).trans (show W2.drew.heap[w.heap.size + 1]? = _ from N1.out))
      have B3 := Lib.hid ((Below.refl W2.heap.size W2).drew.trans b3)
      clear b3 N0 N1
      refine call_s (i := 2) (by kernel_rfl) rfl rfl (by rfl) (fun K hK => ?_)
      refine wp_val (v := .agg (celX v0)) (ldRow_run (run_loadVar_row _ (w.heap.size + 1) 57 57 (celX v0) (0, 0) _ R1.out Tryz.underlying57 rfl (by kernel_rfl)) rfl rfl) ?_
      refine hK.out _ _ trivial ?_; clear hK K; simp only [lset]
      refine call_s (i := 3) (by kernel_rfl) rfl rfl (by rfl) (fun K hK => ?_)
      go_simp
      refine (CC.out W3).mono ?_
      rintro e W4 ⟨rfl, b4⟩
      refine hK.out _ _ trivial ?_; clear hK K CC; simp only [lset]
      have B4 := Lib.hid (B3.out.trans (b4.mono B3.out.size))
      have HW4 := Lib.hid B4.out.size
      refine call_s (i := 5) (by kernel_rfl) rfl rfl (by rfl) (fun K hK => ?_)
      go_simp
      refine (CA.out W4 B4.out).mono ?_
      rintro e W5 ⟨⟨sl, rfl, ho5⟩, b5⟩
      refine hK.out _ _ trivial ?_; clear hK K CA; simp only [lset]
      have B5 := Lib.hid (B4.out.trans (b5.mono B4.out.size))
      have r0 := (b5.block _ (Nat.lt_of_lt_of_le (Array.getElem?_eq_some_iff.1 R0.out).1 b4.size)).trans ((b4.block _ (Array.getElem?_eq_some_iff.1 R0.out).1).trans R0.out)
      have r1 := (b5.block _ (Nat.lt_of_lt_of_le (Array.getElem?_eq_some_iff.1 R1.out).1 b4.size)).trans ((b4.block _ (Array.getElem?_eq_some_iff.1 R1.out).1).trans R1.out)
      clear b4 b5 B3 B4 R0 R1
      refine step_n (i := 6) (by kernel_rfl) rfl rfl (by rfl) (fun K hK => ?_)
      refine wp_store_row 63 _ _ rfl w.heap.size _ rfl rfl 63 _ r0 (by kernel_rfl) rfl (by kernel_rfl) ?_
      refine hK.out undef _ trivial ?_; clear hK K
      have q1 := (setRow_other W5 w.heap.size (w.heap.size + 1) (celD ke ve se) (by omega)).trans r1
      refine step_n (i := 7) (by kernel_rfl) rfl rfl (by rfl) (fun K hK => ?_)
      refine wp_store_row 57 _ _ rfl (w.heap.size + 1) _ rfl rfl 57 _ q1 (by kernel_rfl) rfl (by kernel_rfl) ?_
      refine hK.out undef _ trivial ?_; clear hK K
      refine take_s (i := 8) rfl (by kernel_rfl) (by kernel_rfl) (by kernel_rfl) (fun _ _ _ h => h) (Or.inl ⟨by rfl, by (intro w' hSw; go_simp; try with_reducible rfl)⟩) rfl (by assumption) ?_; simp only [lset]
      refine wpAnyH_done (by kernel_rfl) ?_ _
      clear hHeld
      have hmN := HM.out
      have e0 : ((W5.setRow w.heap.size (celD ke ve se)).setRow (w.heap.size + 1) (celX v1)).heap[w.heap.size]? = some (.cells (celD ke ve se) 63 (0, 0)) := (setRow_other _ _ _ _ (by omega)).trans (setRow_heap _ _ _ _ _ _ r0)
      have e1 : ((W5.setRow w.heap.size (celD ke ve se)).setRow (w.heap.size + 1) (celX v1)).heap[w.heap.size + 1]? = some (.cells (celX v1) 57 (0, 0)) := setRow_heap _ _ _ _ _ _ q1
      have m6 := ((M2.out.on B5.out).ey (ey_row W5 w.heap.size (celD ke ve se)) (by omega)).ey (ey_row _ (w.heap.size + 1) (celX v1)) (by omega)
      have p6 := ((P2.out.on B5.out).kp (ey_row W5 w.heap.size (celD ke ve se)) (by omega) (fun c fz e => by rw [r0] at e; cases e)).kp (ey_row _ (w.heap.size + 1) (celX v1)) (by omega) (fun c fz e => by rw [q1] at e; cases e)
      have b6 : Below w.heap.size w ((W5.setRow w.heap.size (celD ke ve se)).setRow (w.heap.size + 1) (celX v1)) := below_setRowK (below_setRowK (B2.out.trans (B5.out.mono B2.out.size)) (Nat.le_refl _) _) (Nat.le_succ _) _
      obtain ⟨lc, hlc⟩ : ∃ lc, l.map clnV = lc := ⟨_, rfl⟩
      have hll : l.length = lc.length := by rw [← hlc, List.length_map]
      have o6 : ((W5.setRow w.heap.size (celD ke ve se)).setRow (w.heap.size + 1) (celX v1)).ownsRow (w.heap.size + 2) 57 5 sl lc.length (flatV lc) := by
        have h4 : w.heap.size + 2 ≤ W4.heap.size := Nat.le_trans (show w.heap.size + 2 ≤ W2.heap.size by have := P2.out.lt; omega) HW4.out
        rw [hlc, hll] at ho5
        refine ⟨ho5.1, ?_⟩
        rcases ho5.2 with hn | ⟨g, cap, cur, e, hbg, hg, rest⟩
        · exact .inl hn
        · exact .inr ⟨g, cap, cur, e, by omega, (setRow_other _ _ _ _ (by omega)).trans ((setRow_other _ _ _ _ (by omega)).trans hg), rest⟩
      obtain ⟨W6, hW6⟩ : ∃ W6, (W5.setRow w.heap.size (celD ke ve se)).setRow (w.heap.size + 1) (celX v1) = W6 := ⟨_, rfl⟩
      rw [hW6] at e0 e1 m6 p6 b6 o6 ⊢
      have HSZ2 := Lib.hid (show lc.length ≤ 4194304 ∧ ∀ v ∈ lc, v.vs.size ≤ maxLen from ⟨by rw [← hll]; exact HSZ.out.1, by
        intro x hx
        rw [← hlc, List.mem_map] at hx
        obtain ⟨y, hy, rfl⟩ := hx
        exact clnV_size (HSZ.out.2 y hy)⟩)
      obtain ⟨A6, c6, rfl, -⟩ := vals_own o6 HSZ2.out.1 HSZ2.out.2
      have O6 := Lib.hid o6
      have E0 := Lib.hid e0
      have E1 := Lib.hid e1
      have M6 := Lib.hid m6
      have P6 := Lib.hid p6
      have B6 := Lib.hid b6
      have C6 := Lib.hid (alloc_m (y := obB) m6 rfl (by show m ≠ hb; omega) p6 (by decide) mayB1)
      clear hmN e0 e1 m6 p6 b6 o6 hW6 hlc hll ho5 r0 r1 q1 M2 P2 B2 B5 HW4
      go_wp2_with fail
      refine C6.out.mono ?_
      rintro e W7 ⟨t, rfl, m7, p7, t7, -, k7⟩
      have hmN := HM.out
      have e7 := k7.oth _ _ E0.out (fun e => by have := Option.some.inj e; show False; have : w.heap.size = hb := this; omega) (by intro c fz e; cases e)
      have f7 := k7.oth _ _ E1.out (fun e => by have := Option.some.inj e; have : w.heap.size + 1 = hb := this; omega) (by intro c fz e; cases e)
      have b7 : Below w.heap.size w W7 := B6.out.trans (k7.b.mono (show w.heap.size ≤ hb by omega))
      have o7 : W7.ownsRow (w.heap.size + 2) 57 5 (.slice A6 lc.length c6) lc.length (flatV lc) := by
        refine ⟨O6.out.1, ?_⟩
        rcases O6.out.2 with hn | ⟨g, cap, cur, e, hbg, hg, rest⟩
        · exact .inl hn
        · exact .inr ⟨g, cap, cur, e, hbg, (k7.oth _ _ hg (fun e => HpNe P6.out hg (by decide) (Option.some.inj e)) (by intro c fz e; cases e)).trans rfl, rest⟩
      go_upto_region 7 with fail
      have bA := below_a2 W7 (.cells zD 63) (.cells #[.int .i64 5, .bool false, .float .f64 0, .string ⟨#[]⟩, .int .i64 0] 57)
      have kf : ((W7.alloc (.cells zD 63)).alloc (.cells #[.int .i64 5, .bool false, .float .f64 0, .string ⟨#[]⟩, .int .i64 0] 57)).heap[W7.heap.size + 1]? = some (.cells #[.int .i64 5, .bool false, .float .f64 0, .string ⟨#[]⟩, .int .i64 0] 57 (0, 0)) := by
        have := new1 (W7.alloc (.cells zD 63)) #[.int .i64 5, .bool false, .float .f64 0, .string ⟨#[]⟩, .int .i64 0] 57
        simpa using this
      obtain ⟨W8, hW8⟩ : ∃ W8, (W7.alloc (.cells zD 63)).alloc (.cells #[.int .i64 5, .bool false, .float .f64 0, .string ⟨#[]⟩, .int .i64 0] 57) = W8 := ⟨_, rfl⟩
      rw [hW8] at bA kf ⊢
      have E8 := Lib.hid ((bA.block _ (Array.getElem?_eq_some_iff.1 e7).1).trans e7)
      have F8 := Lib.hid ((bA.block _ (Array.getElem?_eq_some_iff.1 f7).1).trans f7)
      have B8 := Lib.hid (b7.trans (bA.mono b7.size))
      have S8 := Lib.hid (show W7.heap.size ≤ W8.heap.size from bA.size)
      have MB8 := Lib.hid (show MB W8 m t (mx0 100 100 100 10 hb dr) 100 1 from ⟨m7.on bA, rfl, p7.on bA, t7.on bA, ⟨rfl, rfl, rfl, by show (1 : Int) ≤ 100; decide, by show (100 : Int) ≤ 1000; decide⟩⟩)
      have KF := Lib.hid (show W8.heap[W7.heap.size + 1]? = some (.cells (celX (vObj 0)) 57 (0, 0)) from kf)
      have O8 := Lib.hid (show W8.ownsRow (w.heap.size + 2) 57 5 (.slice A6 lc.length c6) lc.length (flatV lc) by
        refine ⟨o7.1, ?_⟩
        rcases o7.2 with hn | ⟨g, cap, cur, e, hbg, hg, rest⟩
        · exact .inl hn
        · exact .inr ⟨g, cap, cur, e, hbg, (bA.block _ (Array.getElem?_eq_some_iff.1 hg).1).trans hg, rest⟩)
      obtain ⟨A7, c7, hA7, v8⟩ := vals_own O8.out HSZ2.out.1 HSZ2.out.2
      cases hA7
      have V8 := Lib.hid v8
      have C8 := Lib.hid (call_b0 (v0 := v1) MB8.out rfl v8)
      clear C6 hmN e7 f7 b7 o7 bA kf m7 p7 t7 k7 v8 hW8 E0 E1 M6 P6 B6 O6
      go_wp2_with (first | refine ldP (k := 43) (run_loadVar_row _ (W7.heap.size + 1) 57 57 _ (0, 0) _ KF.out Tryz.underlying57 rfl (by kernel_rfl)) rfl (by kernel_rfl) rfl rfl ?_ | refine ldP (k := 44) (run_loadVar_row _ (w.heap.size + 1) 57 57 _ (0, 0) _ F8.out Tryz.underlying57 rfl (by kernel_rfl)) rfl (by kernel_rfl) rfl rfl ?_)
      refine C8.out.mono ?_
      rintro e W9 ⟨k9, v9, s9, x9, rfl, ⟨rfl, rfl, rfl, rfl⟩, m9, z9⟩
      have hmN := HM.out
      have hz9 : ∀ (j : Nat) (c : Array Value) (ty : TypeId) (fz : Nat × Nat), W8.heap[j]? = some (.cells c ty fz) → ty ≠ 91 → W9.heap[j]? = W8.heap[j]? := fun j c ty fz hj ht => z9.block _ (Array.getElem?_eq_some_iff.1 hj).1 (fun (e : j = m) => by rw [e, show W8.heap[m]? = _ from MB8.out.M] at hj; cases hj; exact ht rfl)
      have E9 := Lib.hid ((hz9 _ _ _ _ E8.out (by decide)).trans E8.out)
      have F9 := Lib.hid ((hz9 _ _ _ _ F8.out (by decide)).trans F8.out)
      have KF9 := Lib.hid ((hz9 _ _ _ _ KF.out (by decide)).trans KF.out)
      have B9 := Lib.hid (B8.out.trans (z9.below B8.out.size (fun i (e : i = m) => by omega)))
      have p9 := MB8.out.P.ez z9 (fun j c ty fz hj ht (e : j = m) => by rw [e, show W8.heap[m]? = _ from MB8.out.M] at hj; cases hj; rcases ht with h | h <;> exact absurd h (by decide))
      have t9 := MB8.out.T.ez z9 (fun (e : t = m) => by obtain ⟨q, ht⟩ := MB8.out.T; rw [e, show W8.heap[m]? = _ from MB8.out.M] at ht; cases ht)
      have MB9 := Lib.hid (show MB W9 m t _ 100 1 from ⟨m9, rfl, p9, t9, ⟨rfl, rfl, rfl, by show (1 : Int) ≤ 100 - 1; decide, by show (100 : Int) - 1 ≤ 1000; decide⟩⟩)
      have o9 : W9.ownsRow (w.heap.size + 2) 57 5 (.slice A6 lc.length c6) lc.length (flatV lc) := by
        refine ⟨O8.out.1, ?_⟩
        rcases O8.out.2 with hn | ⟨g, cap, cur, e, hbg, hg, rest⟩
        · exact .inl hn
        · exact .inr ⟨g, cap, cur, e, hbg, (hz9 _ _ _ _ hg (by decide)).trans hg, rest⟩
      have O9 := Lib.hid o9
      have S9 := Lib.hid (show W7.heap.size + 1 < W9.heap.size from (Array.getElem?_eq_some_iff.1 KF9.out).1)
      clear C8 hmN hz9 m9 z9 p9 t9 o9 E8 F8 KF B8 MB8 V8 O8 S8
      go_upto_region 10 with fail
      have bB := below_a2 W9 (.cells (celE 0 valU (.slice none 0 0)) 61) (.cells #[.int .i64 0] 3)
      have kw : ((W9.alloc (.cells (celE 0 valU (.slice none 0 0)) 61)).alloc (.cells #[.int .i64 0] 3)).heap[W9.heap.size]? = some (.cells (celE 0 valU (.slice none 0 0)) 61 (0, 0)) := ((below_a1 _ _).block _ (by simp)).trans (new1 W9 _ _)
      have km : ((W9.alloc (.cells (celE 0 valU (.slice none 0 0)) 61)).alloc (.cells #[.int .i64 0] 3)).heap[W9.heap.size + 1]? = some (.cells #[.int .i64 0] 3 (0, 0)) := by
        have := new1 (W9.alloc (.cells (celE 0 valU (.slice none 0 0)) 61)) #[.int .i64 0] 3
        simpa using this
      obtain ⟨W10, hW10⟩ : ∃ W10, (W9.alloc (.cells (celE 0 valU (.slice none 0 0)) 61)).alloc (.cells #[.int .i64 0] 3) = W10 := ⟨_, rfl⟩
      have hg10 : (W9.alloc (.cells #[.int .i64 0, .int .i64 0, .bool false, .float .f64 0, .string ⟨#[]⟩, .int .i64 0, .slice none 0 0, .bool false] 61)).alloc (.cells #[.int .i64 0] 3) = W10 := hW10
      rw [hg10]
      rw [hW10] at bB kw km
      have s9 := S9.out
      have d9 : W9.heap.size + 1 < W10.heap.size := (Array.getElem?_eq_some_iff.1 km).1
      have E10 := (bB.block _ (Array.getElem?_eq_some_iff.1 E9.out).1).trans E9.out
      have F10 := (bB.block _ (Array.getElem?_eq_some_iff.1 F9.out).1).trans F9.out
      have KF10 := (bB.block _ (Array.getElem?_eq_some_iff.1 KF9.out).1).trans KF9.out
      have MB10 := MB9.out.on bB
      have C10 := Lib.hid (setBody_m (F := .func 29) (caps := #[.pointer (some ⟨W9.heap.size, 0, none⟩), .pointer (some ⟨W9.heap.size + 1, 0, none⟩), .pointer (some ⟨w.heap.size, 0, none⟩)]) MB10.M rfl)
      obtain ⟨wb, hwb⟩ : ∃ wb, W9.heap.size = wb := ⟨_, rfl⟩
      have b10 : Below w.heap.size w W10 := B9.out.trans (bB.mono B9.out.size)
      have hml : m < wb := by rw [← hwb]; exact MB9.out.M.lt
      rw [hwb] at kw km C10 d9 s9
      rw [hwb]
      have X10 := Lib.hid (And.intro E10 (And.intro F10 (And.intro KF10 (And.intro MB10 (And.intro kw (And.intro km (And.intro b10 (And.intro hml (And.intro s9 d9)))))))))
      have O10 := Lib.hid (show W10.ownsRow (w.heap.size + 2) 57 5 (.slice A6 lc.length c6) lc.length (flatV lc) by
        refine ⟨O9.out.1, ?_⟩
        rcases O9.out.2 with hn | ⟨g, cap, cur, e, hbg, hg, rest⟩
        · exact .inl hn
        · exact .inr ⟨g, cap, cur, e, hbg, (bB.block _ (Array.getElem?_eq_some_iff.1 hg).1).trans hg, rest⟩)
      clear E10 F10 KF10 MB10 kw km b10 hml s9 d9 bB hW10 hg10 hwb E9 F9 KF9 B9 MB9 O9 S9
      go_wp2_with fail
      refine C10.out.mono ?_
      rintro e W11 ⟨rfl, m11, y11⟩
      obtain ⟨e10, f10, kf10, mb10, kw, km, b10, hml, s9, d9⟩ := X10.out
      have hy : ∀ (j : Nat) (c : Array Value) (ty : TypeId) (fz : Nat × Nat), W10.heap[j]? = some (.cells c ty fz) → ty ≠ 91 → W11.heap[j]? = W10.heap[j]? := fun j c ty fz hj ht => y11.block _ (Array.getElem?_eq_some_iff.1 hj).1 (fun e => by rw [e, show W10.heap[m]? = _ from mb10.M] at hj; cases hj; exact ht rfl)
      have E11 := Lib.hid ((hy _ _ _ _ e10 (by decide)).trans e10)
      have F11 := Lib.hid ((hy _ _ _ _ f10 (by decide)).trans f10)
      have KF11 := Lib.hid ((hy _ _ _ _ kf10 (by decide)).trans kf10)
      have kw11 := (hy _ _ _ _ kw (by decide)).trans kw
      have km11 := (hy _ _ _ _ km (by decide)).trans km
      have B11 := Lib.hid (b10.trans (y11.below b10.size (by have := HM.out; omega)))
      have t11 : HobE W11 t obB (.slice none 0 0) (.slice none 0 0) := by
        obtain ⟨q, ht⟩ := mb10.T
        exact ⟨q, (hy _ _ _ _ ht (by decide)).trans ht⟩
      have MB11 := Lib.hid (show MB W11 m t _ 100 1 from ⟨m11, rfl, mb10.P.mc mb10.M y11 (by show m ≠ hb; have := HM.out; omega), t11, ⟨rfl, rfl, rfl, by show (1 : Int) ≤ 100 - 1; decide, by show (100 : Int) - 1 ≤ 1000; decide⟩⟩)
      have BB11 := Lib.hid (show BB W11 m wb (wb + 1) w.heap.size ke ve se from ⟨⟨_, kw11, rfl⟩, km11, E11.out⟩)
      have O11 := Lib.hid (show W11.ownsRow (w.heap.size + 2) 57 5 (.slice A6 lc.length c6) lc.length (flatV lc) by
        refine ⟨O10.out.1, ?_⟩
        rcases O10.out.2 with hn | ⟨g, cap, cur, e, hbg, hg, rest⟩
        · exact .inl hn
        · exact .inr ⟨g, cap, cur, e, hbg, (hy _ _ _ _ hg (by decide)).trans hg, rest⟩)
      obtain ⟨A11, c11, hA11, v11⟩ := vals_own O11.out HSZ2.out.1 HSZ2.out.2
      cases hA11
      have C11 := Lib.hid (call_b1 (v0 := v1) MB11.out rfl BB11.out HKE.out v11)
      have HWB := Lib.hid (And.intro hml (show wb + 1 < W11.heap.size from Nat.lt_of_lt_of_le d9 y11.size))
      clear C10 e10 f10 kf10 mb10 kw km b10 hml s9 d9 hy kw11 km11 t11 v11 m11 y11 X10 O10
      go_wp2_with (first | refine ldP (k := 54) (run_loadVar_row _ (W7.heap.size + 1) 57 57 _ (0, 0) _ KF11.out Tryz.underlying57 rfl (by kernel_rfl)) rfl (by kernel_rfl) rfl rfl ?_ | refine ldP (k := 55) (run_loadVar_row _ (w.heap.size + 1) 57 57 _ (0, 0) _ F11.out Tryz.underlying57 rfl (by kernel_rfl)) rfl (by kernel_rfl) rfl rfl ?_)
      refine C11.out.mono ?_
      rintro e W12 ⟨k12, v12, s12, x12, rfl, ⟨⟨rfl, rfl, rfl⟩, km12, sl, kw12, rb12⟩, m12, z12⟩
      have hN := HM.out
      have hB := HWB.out
      have b12 : Below w.heap.size w W12 := B11.out.trans (z12.below B11.out.size (fun i hi => by rcases hi with h | h | h <;> omega))
      have hz12 : ∀ (j : Nat), j < W11.heap.size → j ≠ m → j ≠ wb → j ≠ wb + 1 → W12.heap[j]? = W11.heap[j]? := fun j hj h1 h2 h3 => z12.block _ hj (fun hi => by (rcases hi with h | h | h) <;> omega)
      have e12 := (hz12 _ (by omega) (by omega) (by omega) (by omega)).trans E11.out
      have f12 := (hz12 _ (by omega) (by omega) (by omega) (by omega)).trans F11.out
      have s12 : W11.heap.size ≤ W12.heap.size := z12.size
      have o12 : W12.ownsRow (w.heap.size + 2) 57 5 (.slice A6 lc.length c6) lc.length (flatV lc) := by
        refine ⟨O11.out.1, ?_⟩
        rcases O11.out.2 with hn | ⟨g, cap, cur, e, hbg, hg, rest⟩
        · exact .inl hn
        · refine .inr ⟨g, cap, cur, e, hbg, (hz12 _ (Array.getElem?_eq_some_iff.1 hg).1 ?_ ?_ ?_).trans hg, rest⟩
          · rintro rfl
            have := MB11.out.M
            rw [show W11.heap[g]? = _ from this] at hg
            cases hg
          · rintro rfl
            obtain ⟨q, hq, _⟩ := BB11.out.w
            rw [hq] at hg
            cases hg
          · rintro rfl
            rw [BB11.out.m0] at hg
            cases hg
      have X12 := Lib.hid (And.intro e12 (And.intro f12 (And.intro o12 (And.intro b12 (And.intro km12 (And.intro kw12 (And.intro rb12 (show wb + 1 < W12.heap.size by omega))))))))
      clear hN hB b12 hz12 e12 f12 s12 o12 km12 kw12 rb12 C11 E11 F11 KF11 B11 MB11 BB11 O11 m12 z12
      go_upto_region 12 with fail
      obtain ⟨e12, f12, o12, b12, km12, kw12, rb12, hB12⟩ := X12.out
      obtain ⟨A9, c9, rfl, v9⟩ := vals_own rb12 HSZ2.out.1 HSZ2.out.2
      obtain ⟨A7, c7, hA7, v7⟩ := vals_own o12 HSZ2.out.1 HSZ2.out.2
      cases hA7
      have bC := below_a1 W12 (.cells (celD (outK ke) (outV ke ve) ⟨#[]⟩) 63)
      have kr : (W12.alloc (.cells (celD (outK ke) (outV ke ve) ⟨#[]⟩) 63)).heap[W12.heap.size]? = some (.cells (celD (outK ke) (outV ke ve) ⟨#[]⟩) 63 (0, 0)) := new1 W12 _ _
      obtain ⟨W13, hW13⟩ : ∃ W13, W12.alloc (.cells (celD (outK ke) (outV ke ve) ⟨#[]⟩) 63) = W13 := ⟨_, rfl⟩
      rw [hW13] at bC kr ⊢
      have lt12 := (Array.getElem?_eq_some_iff.1 f12).1
      have lt13 := (Array.getElem?_eq_some_iff.1 kr).1
      have E13 := Lib.hid ((bC.block _ (by omega)).trans e12)
      have F13 := Lib.hid ((bC.block _ lt12).trans f12)
      have KM13 := Lib.hid ((bC.block _ hB12).trans km12)
      have KW13 := Lib.hid ((bC.block _ (by omega)).trans kw12)
      have V9 := Lib.hid (v9.on bC)
      have V7 := Lib.hid (v7.on bC)
      have B13 := Lib.hid (b12.trans (bC.mono b12.size))
      have KR := Lib.hid kr
      have S13 := Lib.hid (And.intro lt12 (And.intro hB12 (And.intro lt13 b12.size)))
      clear e12 f12 o12 b12 km12 kw12 rb12 hB12 v9 v7 bC kr hW13 lt12 lt13 X12
      go_upto_region 13 with (refine ldP (k := 58) (run_loadVar_row _ w.heap.size 63 63 _ (0, 0) _ E13.out Tryz.underlying63 rfl (by kernel_rfl)) rfl (by kernel_rfl) rfl rfl ?_)
      have bD := below_a1 W13 (.cells (celD ke ve se) 63)
      have e14 := (bD.block _ (show w.heap.size < W13.heap.size by have := S13.out; omega)).trans E13.out
      have c14 : (W13.alloc (.cells (celD ke ve se) 63)).cell? ⟨w.heap.size, 0, none⟩ = some (.int .i64 ke) := (cell_of_row _ _ 0 _ _ _ e14).trans rfl
      have E14 := Lib.hid e14
      clear bD e14
      have hcase : ke = 0 ∨ ke = 1 ∨ ke = 2 ∨ ke = 3 ∨ ke = 4 := by have := HKE.out; omega
      rcases hcase with rfl | rfl | rfl | rfl | rfl
      · skip
        have hse := HEL.out (by omega)
        subst hse
        clear HEL HKE
        go_upto_region 19 with fail
        clear c14 E14
        have hg15 : W13.alloc (.cells (celD 0 ve ⟨#[]⟩) 63) = W13.alloc (.cells (celD (outK 0) (outV 0 ve) ⟨#[]⟩) 63) := rfl
        rw [hg15]
        clear hg15
        obtain ⟨rk, hrk⟩ : ∃ rk, outK 0 = rk := ⟨_, rfl⟩
        obtain ⟨rv, hrv⟩ : ∃ rv, outV 0 ve = rv := ⟨_, rfl⟩
        rw [hrk, hrv] at KR ⊢
        clear hrk hrv
        have bE := below_a1 W13 (.cells (celD rk rv ⟨#[]⟩) 63)
        have ks := new1 W13 (celD rk rv ⟨#[]⟩) 63
        obtain ⟨W15, hW15⟩ : ∃ W15, W13.alloc (.cells (celD rk rv ⟨#[]⟩) 63) = W15 := ⟨_, rfl⟩
        rw [hW15] at bE ks ⊢
        have hS := S13.out
        have kmc : W15.cell? ⟨wb + 1, 0, none⟩ = some (.int .i64 1) := (cell_of_row _ _ 0 _ _ _ ((bE.block _ (by omega)).trans KM13.out)).trans rfl
        have kw15 := (bE.block _ (show wb < W13.heap.size by omega)).trans KW13.out
        have kfc : W15.cell? ⟨wb, 0, none⟩ = some (.int .i64 0) := (cell_of_row _ _ 0 _ _ _ kw15).trans rfl
        have kac : W15.cell? ⟨wb, 6, none⟩ = some (.slice A9 lc.length c9) := (cell_of_row _ _ 6 _ _ _ kw15).trans rfl
        have KW := Lib.hid kw15
        have KF := Lib.hid ((bE.block _ (show w.heap.size + 1 < W13.heap.size by omega)).trans F13.out)
        have KR15 := Lib.hid ((bE.block _ (show W12.heap.size < W13.heap.size by omega)).trans KR.out)
        have KS := Lib.hid ks
        have V9e := Lib.hid (V9.out.on (bE.mono (show W12.heap.size ≤ W13.heap.size by omega)))
        have V7e := Lib.hid (V7.out.on (bE.mono (show W12.heap.size ≤ W13.heap.size by omega)))
        have B15 := Lib.hid (B13.out.trans (bE.mono B13.out.size))
        have S15 := Lib.hid (show wb + 1 < W15.heap.size ∧ w.heap.size ≤ W15.heap.size ∧ w.heap.size + 1 < W15.heap.size ∧ W12.heap.size < W15.heap.size ∧ W13.heap.size < W15.heap.size from by
          have h1 := bE.size
          have h2 := (Array.getElem?_eq_some_iff.1 ks).1
          exact ⟨by omega, by omega, by omega, by omega, h2⟩)
        have C1 := Lib.hid (fun W => fBits_any v1 v1 W)
        rw [bits_self] at C1
        have C2 := Lib.hid (fun W => same_self rk rv ⟨#[]⟩ W)
        have C3 := Lib.hid (fun W => awake_any W)
        clear bE ks hS kw15 hW15 E13 F13 KM13 KW13 V9 V7 B13 KR S13
        go_wp2_with (first | refine ldP (k := 80) (ldSegW KW.out) rfl (by kernel_rfl) rfl rfl ?_ | refine ldP (k := 81) (run_loadVar_row _ (w.heap.size + 1) 57 57 _ (0, 0) _ KF.out Tryz.underlying57 rfl (by kernel_rfl)) rfl (by kernel_rfl) rfl rfl ?_)
        refine (C1.out _).mono ?_
        rintro e W16 ⟨rfl, b16⟩
        have hS := S15.out
        have kw16 := (b16.block _ (show wb < W15.heap.size by omega)).trans KW.out
        have kad : W16.cell? ⟨wb, 6, none⟩ = some (.slice A9 lc.length c9) := (cell_of_row _ _ 6 _ _ _ kw16).trans rfl
        have KW6 := Lib.hid kw16
        have KR6 := Lib.hid ((b16.block _ (show W12.heap.size < W15.heap.size by omega)).trans KR15.out)
        have KS6 := Lib.hid ((b16.block _ (show W13.heap.size < W15.heap.size by omega)).trans KS.out)
        have B16 := Lib.hid (B15.out.trans (b16.mono B15.out.size))
        have V9f := Lib.hid (V9e.out.on (b16.mono (by omega)))
        have V7f := Lib.hid (V7e.out.on (b16.mono (by omega)))
        have S16 := Lib.hid (show wb < W16.heap.size by have := b16.size; omega)
        have D16 := Lib.hid (show W12.heap.size < W16.heap.size by have := b16.size; omega)
        clear b16 hS kw16 kmc kfc kac KW KF KR15 KS B15 V9e V7e S15 C1
        go_wp2_with (first | refine ldP (k := 94) (run_loadVar_row _ W12.heap.size 63 63 _ (0, 0) _ KR6.out Tryz.underlying63 rfl (by kernel_rfl)) rfl (by kernel_rfl) rfl rfl ?_ | refine ldP (k := 95) (run_loadVar_row _ W13.heap.size 63 63 _ (0, 0) _ KS6.out Tryz.underlying63 rfl (by kernel_rfl)) rfl (by kernel_rfl) rfl rfl ?_)
        refine (C2.out _).mono ?_
        rintro e W17 ⟨rfl, b17⟩
        have KW7 := Lib.hid ((b17.block _ S16.out).trans KW6.out)
        have B17 := Lib.hid (B16.out.trans (b17.mono B16.out.size))
        have V9g := Lib.hid ((V9f.out.on (b17.mono (Nat.le_of_lt D16.out))))
        have V7g := Lib.hid ((V7f.out.on (b17.mono (Nat.le_of_lt D16.out))))
        have S17 := Lib.hid (show wb < W17.heap.size ∧ W12.heap.size ≤ W17.heap.size by have := b17.size; have := S16.out; have := D16.out; omega)
        clear b17 kad KR6 KS6 B16 V9f V7f S16 D16 KW6 C2
        go_wp2_with fail
        go_loopw [16] (fun v16 wr => ∃ k : Nat, v16 = .int .i64 (k : Nat) ∧ Hid (k ≤ lc.length) ∧ Hid (Below W17.heap.size W17 wr)) (fun v16 _ => ((lc.length : Int) - intOf v16).toNat)
        case atStart => exact ⟨0, rfl, Lib.hid (Nat.zero_le _), Lib.hid (Below.refl _ _)⟩
        case round =>
          obtain ⟨k, rfl, HK, HW⟩ := hrel
          by_cases hkn : k < lc.length
          · skip
            have hm' := HSZ2.out.1
            have t1 : decide ((k : Int) < (lc.length : Int)) = true := decide_eq_true (by omega)
            have t2 : (k : Int) < (lc.length : Int) := by omega
            have t3 : (0 : Int) ≤ (k : Int) := by omega
            have k1 : IntKind.i64.wrap ((k : Int) + 1) = ((k + 1 : Nat) : Int) := by rw [IntWalk.i64_in _ (by omega)]; omega
            obtain ⟨x, hx⟩ : ∃ x, lc[k]? = some x := ⟨_, List.getElem?_eq_getElem hkn⟩
            obtain ⟨b, o, hA, hbl, hat⟩ := V9g.out.at' (by rintro rfl; simp at hkn)
            obtain ⟨b', o', hA', hbl', hat'⟩ := V7g.out.at' (by rintro rfl; simp at hkn)
            subst hA
            subst hA'
            have hS := S17.out
            have CA := Lib.hid ((hat k x hx).on HW.out (by omega))
            have CB := Lib.hid ((hat' k x hx).on HW.out (by omega))
            have CW := Lib.hid ((cell_of_row _ _ 6 _ _ _ ((HW.out.block _ hS.1).trans KW7.out)).trans (show (celE 0 v1 (.slice (some ⟨b, o, none⟩) lc.length c9))[6]? = some (.slice (some ⟨b, o, none⟩) lc.length c9) from rfl))
            have HL := Lib.hid (show b < wr.heap.size ∧ b' < wr.heap.size ∧ wb < wr.heap.size by have := HW.out.size; omega)
            have HKN := Lib.hid hkn
            have C1 := Lib.hid (fun W => fBits_any x x W)
            rw [bits_self] at C1
            clear hx hkn hm' hat hat' hbl hbl' hS
            go_upto_region 24 with fail
            refine wp_region_held_drew (S := fun W => W.cell? ⟨wb, 6, none⟩ = some (.slice (some ⟨b, o, none⟩) lc.length c9) ∧ CelAt W b (o + k * 5) x ∧ CelAt W b' (o' + k * 5) x) (by kernel_rfl) ⟨CW.out, CA.out.on (Below.refl _ _).drew HL.out.1, CB.out.on (Below.refl _ _).drew HL.out.2.1⟩ (fun hHeld => ?_)
            refine take_s (i := 0) rfl (by kernel_rfl) (by kernel_rfl) (by kernel_rfl) (fun _ _ _ h => h) (Or.inl ⟨by rfl, by (intro w' hSw; go_simp; try with_reducible rfl)⟩) rfl (by assumption) ?_; simp only [lset]
            refine take_s (v := .slice (some ⟨b, o, none⟩) lc.length c9) (i := 1) rfl (by kernel_rfl) (by kernel_rfl) (by kernel_rfl) (fun _ _ _ h => h) (Or.inl ⟨by rfl, by (intro w' hSw; have c := hSw.1; go_simp)⟩) rfl (by assumption) ?_; simp only [lset]
            refine take_s (i := 2) rfl (by kernel_rfl) (by kernel_rfl) (by kernel_rfl) (fun _ _ _ h => h) (Or.inl ⟨by rfl, by (intro w' hSw; go_simp; try with_reducible rfl)⟩) rfl (by assumption) ?_; simp only [lset]
            refine take_s (v := .pointer (some ⟨b, o + k * 5, none⟩)) (i := 3) rfl (by kernel_rfl) (by kernel_rfl) (by kernel_rfl) (fun _ _ _ h => h) (Or.inl ⟨by rfl, by (intro w' hSw; go_simp; try with_reducible rfl)⟩) rfl (by assumption) ?_; simp only [lset]
            refine take_s (v := .agg (celX x)) (i := 4) rfl (by kernel_rfl) (by kernel_rfl) (by kernel_rfl) (fun _ _ _ h => h) (Or.inl ⟨by rfl, by (intro w' hSw; exact ldA_run hSw.2.1.ld rfl rfl)⟩) rfl (by assumption) ?_; simp only [lset]
            refine take_s (i := 5) rfl (by kernel_rfl) (by kernel_rfl) (by kernel_rfl) (fun _ _ _ h => h) (Or.inl ⟨by rfl, by (intro w' hSw; go_simp; try with_reducible rfl)⟩) rfl (by assumption) ?_; simp only [lset]
            refine take_s (i := 6) rfl (by kernel_rfl) (by kernel_rfl) (by kernel_rfl) (fun _ _ _ h => h) (Or.inl ⟨by rfl, by (intro w' hSw; go_simp; try with_reducible rfl)⟩) rfl (by assumption) ?_; simp only [lset]
            refine take_s (v := .pointer (some ⟨b', o' + k * 5, none⟩)) (i := 7) rfl (by kernel_rfl) (by kernel_rfl) (by kernel_rfl) (fun _ _ _ h => h) (Or.inl ⟨by rfl, by (intro w' hSw; go_simp; try with_reducible rfl)⟩) rfl (by assumption) ?_; simp only [lset]
            refine take_s (v := .agg (celX x)) (i := 8) rfl (by kernel_rfl) (by kernel_rfl) (by kernel_rfl) (fun _ _ _ h => h) (Or.inl ⟨by rfl, by (intro w' hSw; exact ldA_run hSw.2.2.ld rfl rfl)⟩) rfl (by assumption) ?_; simp only [lset]
            refine call_s (i := 9) (by kernel_rfl) rfl rfl (by rfl) (fun K hK => ?_)
            go_simp
            refine (C1.out _).mono ?_
            rintro e w2 ⟨rfl, b2⟩
            have B2 := Lib.hid (HW.out.trans (((Below.refl _ _).drew.trans b2).mono HW.out.size))
            have hHeld2 := And.intro ((World.cell?_of_block (b2.block _ HL.out.2.2)).trans CW.out) (And.intro (CA.out.on ((Below.refl _ _).drew.trans b2) HL.out.1) (CB.out.on ((Below.refl _ _).drew.trans b2) HL.out.2.1))
            refine hK.out _ _ hHeld2 ?_; clear hK K hHeld b2 C1 CA CB CW HL HW; simp only [lset]
            refine take_s (i := 10) rfl (by kernel_rfl) (by kernel_rfl) (by kernel_rfl) (fun _ _ _ h => h) (Or.inl ⟨by rfl, by (intro w' hSw; go_simp; try with_reducible rfl)⟩) rfl (by assumption) ?_; simp only [lset]
            refine wpAnyH_done (by kernel_rfl) ?_ _
            go_wp2_with fail
            go_roundw
            case rel => exact ⟨k + 1, by go_num, Lib.hid (by have := HKN.out; omega), B2⟩
            case measure => have := HKN.out; simp [intOf]; omega
          · skip
            have t1 : decide ((k : Int) < (lc.length : Int)) = false := decide_eq_false (by omega)
            have t2 : ¬ ((k : Int) < (lc.length : Int)) := by omega
            clear hkn
            go_wp2_with fail
            refine (C3.out _).mono ?_
            rintro e w3 ⟨rfl, b3⟩
            have B3 := Lib.hid (B17.out.trans ((HW.out.trans (b3.mono HW.out.size)).mono B17.out.size))
            go_wp2
            go_ret
            exact ⟨rfl, B3.out⟩
      · skip
        have hse := HEL.out (by omega)
        subst hse
        clear HEL HKE
        go_upto_region 19 with fail
        clear c14 E14
        have hg15 : W13.alloc (.cells (celD 1 ve ⟨#[]⟩) 63) = W13.alloc (.cells (celD (outK 1) (outV 1 ve) ⟨#[]⟩) 63) := rfl
        rw [hg15]
        clear hg15
        obtain ⟨rk, hrk⟩ : ∃ rk, outK 1 = rk := ⟨_, rfl⟩
        obtain ⟨rv, hrv⟩ : ∃ rv, outV 1 ve = rv := ⟨_, rfl⟩
        rw [hrk, hrv] at KR ⊢
        clear hrk hrv
        have bE := below_a1 W13 (.cells (celD rk rv ⟨#[]⟩) 63)
        have ks := new1 W13 (celD rk rv ⟨#[]⟩) 63
        obtain ⟨W15, hW15⟩ : ∃ W15, W13.alloc (.cells (celD rk rv ⟨#[]⟩) 63) = W15 := ⟨_, rfl⟩
        rw [hW15] at bE ks ⊢
        have hS := S13.out
        have kmc : W15.cell? ⟨wb + 1, 0, none⟩ = some (.int .i64 1) := (cell_of_row _ _ 0 _ _ _ ((bE.block _ (by omega)).trans KM13.out)).trans rfl
        have kw15 := (bE.block _ (show wb < W13.heap.size by omega)).trans KW13.out
        have kfc : W15.cell? ⟨wb, 0, none⟩ = some (.int .i64 0) := (cell_of_row _ _ 0 _ _ _ kw15).trans rfl
        have kac : W15.cell? ⟨wb, 6, none⟩ = some (.slice A9 lc.length c9) := (cell_of_row _ _ 6 _ _ _ kw15).trans rfl
        have KW := Lib.hid kw15
        have KF := Lib.hid ((bE.block _ (show w.heap.size + 1 < W13.heap.size by omega)).trans F13.out)
        have KR15 := Lib.hid ((bE.block _ (show W12.heap.size < W13.heap.size by omega)).trans KR.out)
        have KS := Lib.hid ks
        have V9e := Lib.hid (V9.out.on (bE.mono (show W12.heap.size ≤ W13.heap.size by omega)))
        have V7e := Lib.hid (V7.out.on (bE.mono (show W12.heap.size ≤ W13.heap.size by omega)))
        have B15 := Lib.hid (B13.out.trans (bE.mono B13.out.size))
        have S15 := Lib.hid (show wb + 1 < W15.heap.size ∧ w.heap.size ≤ W15.heap.size ∧ w.heap.size + 1 < W15.heap.size ∧ W12.heap.size < W15.heap.size ∧ W13.heap.size < W15.heap.size from by
          have h1 := bE.size
          have h2 := (Array.getElem?_eq_some_iff.1 ks).1
          exact ⟨by omega, by omega, by omega, by omega, h2⟩)
        have C1 := Lib.hid (fun W => fBits_any v1 v1 W)
        rw [bits_self] at C1
        have C2 := Lib.hid (fun W => same_self rk rv ⟨#[]⟩ W)
        have C3 := Lib.hid (fun W => awake_any W)
        clear bE ks hS kw15 hW15 E13 F13 KM13 KW13 V9 V7 B13 KR S13
        go_wp2_with (first | refine ldP (k := 80) (ldSegW KW.out) rfl (by kernel_rfl) rfl rfl ?_ | refine ldP (k := 81) (run_loadVar_row _ (w.heap.size + 1) 57 57 _ (0, 0) _ KF.out Tryz.underlying57 rfl (by kernel_rfl)) rfl (by kernel_rfl) rfl rfl ?_)
        refine (C1.out _).mono ?_
        rintro e W16 ⟨rfl, b16⟩
        have hS := S15.out
        have kw16 := (b16.block _ (show wb < W15.heap.size by omega)).trans KW.out
        have kad : W16.cell? ⟨wb, 6, none⟩ = some (.slice A9 lc.length c9) := (cell_of_row _ _ 6 _ _ _ kw16).trans rfl
        have KW6 := Lib.hid kw16
        have KR6 := Lib.hid ((b16.block _ (show W12.heap.size < W15.heap.size by omega)).trans KR15.out)
        have KS6 := Lib.hid ((b16.block _ (show W13.heap.size < W15.heap.size by omega)).trans KS.out)
        have B16 := Lib.hid (B15.out.trans (b16.mono B15.out.size))
        have V9f := Lib.hid (V9e.out.on (b16.mono (by omega)))
        have V7f := Lib.hid (V7e.out.on (b16.mono (by omega)))
        have S16 := Lib.hid (show wb < W16.heap.size by have := b16.size; omega)
        have D16 := Lib.hid (show W12.heap.size < W16.heap.size by have := b16.size; omega)
        clear b16 hS kw16 kmc kfc kac KW KF KR15 KS B15 V9e V7e S15 C1
        go_wp2_with (first | refine ldP (k := 94) (run_loadVar_row _ W12.heap.size 63 63 _ (0, 0) _ KR6.out Tryz.underlying63 rfl (by kernel_rfl)) rfl (by kernel_rfl) rfl rfl ?_ | refine ldP (k := 95) (run_loadVar_row _ W13.heap.size 63 63 _ (0, 0) _ KS6.out Tryz.underlying63 rfl (by kernel_rfl)) rfl (by kernel_rfl) rfl rfl ?_)
        refine (C2.out _).mono ?_
        rintro e W17 ⟨rfl, b17⟩
        have KW7 := Lib.hid ((b17.block _ S16.out).trans KW6.out)
        have B17 := Lib.hid (B16.out.trans (b17.mono B16.out.size))
        have V9g := Lib.hid ((V9f.out.on (b17.mono (Nat.le_of_lt D16.out))))
        have V7g := Lib.hid ((V7f.out.on (b17.mono (Nat.le_of_lt D16.out))))
        have S17 := Lib.hid (show wb < W17.heap.size ∧ W12.heap.size ≤ W17.heap.size by have := b17.size; have := S16.out; have := D16.out; omega)
        clear b17 kad KR6 KS6 B16 V9f V7f S16 D16 KW6 C2
        go_wp2_with fail
        go_loopw [16] (fun v16 wr => ∃ k : Nat, v16 = .int .i64 (k : Nat) ∧ Hid (k ≤ lc.length) ∧ Hid (Below W17.heap.size W17 wr)) (fun v16 _ => ((lc.length : Int) - intOf v16).toNat)
        case atStart => exact ⟨0, rfl, Lib.hid (Nat.zero_le _), Lib.hid (Below.refl _ _)⟩
        case round =>
          obtain ⟨k, rfl, HK, HW⟩ := hrel
          by_cases hkn : k < lc.length
          · skip
            have hm' := HSZ2.out.1
            have t1 : decide ((k : Int) < (lc.length : Int)) = true := decide_eq_true (by omega)
            have t2 : (k : Int) < (lc.length : Int) := by omega
            have t3 : (0 : Int) ≤ (k : Int) := by omega
            have k1 : IntKind.i64.wrap ((k : Int) + 1) = ((k + 1 : Nat) : Int) := by rw [IntWalk.i64_in _ (by omega)]; omega
            obtain ⟨x, hx⟩ : ∃ x, lc[k]? = some x := ⟨_, List.getElem?_eq_getElem hkn⟩
            obtain ⟨b, o, hA, hbl, hat⟩ := V9g.out.at' (by rintro rfl; simp at hkn)
            obtain ⟨b', o', hA', hbl', hat'⟩ := V7g.out.at' (by rintro rfl; simp at hkn)
            subst hA
            subst hA'
            have hS := S17.out
            have CA := Lib.hid ((hat k x hx).on HW.out (by omega))
            have CB := Lib.hid ((hat' k x hx).on HW.out (by omega))
            have CW := Lib.hid ((cell_of_row _ _ 6 _ _ _ ((HW.out.block _ hS.1).trans KW7.out)).trans (show (celE 0 v1 (.slice (some ⟨b, o, none⟩) lc.length c9))[6]? = some (.slice (some ⟨b, o, none⟩) lc.length c9) from rfl))
            have HL := Lib.hid (show b < wr.heap.size ∧ b' < wr.heap.size ∧ wb < wr.heap.size by have := HW.out.size; omega)
            have HKN := Lib.hid hkn
            have C1 := Lib.hid (fun W => fBits_any x x W)
            rw [bits_self] at C1
            clear hx hkn hm' hat hat' hbl hbl' hS
            go_upto_region 24 with fail
            refine wp_region_held_drew (S := fun W => W.cell? ⟨wb, 6, none⟩ = some (.slice (some ⟨b, o, none⟩) lc.length c9) ∧ CelAt W b (o + k * 5) x ∧ CelAt W b' (o' + k * 5) x) (by kernel_rfl) ⟨CW.out, CA.out.on (Below.refl _ _).drew HL.out.1, CB.out.on (Below.refl _ _).drew HL.out.2.1⟩ (fun hHeld => ?_)
            refine take_s (i := 0) rfl (by kernel_rfl) (by kernel_rfl) (by kernel_rfl) (fun _ _ _ h => h) (Or.inl ⟨by rfl, by (intro w' hSw; go_simp; try with_reducible rfl)⟩) rfl (by assumption) ?_; simp only [lset]
            refine take_s (v := .slice (some ⟨b, o, none⟩) lc.length c9) (i := 1) rfl (by kernel_rfl) (by kernel_rfl) (by kernel_rfl) (fun _ _ _ h => h) (Or.inl ⟨by rfl, by (intro w' hSw; have c := hSw.1; go_simp)⟩) rfl (by assumption) ?_; simp only [lset]
            refine take_s (i := 2) rfl (by kernel_rfl) (by kernel_rfl) (by kernel_rfl) (fun _ _ _ h => h) (Or.inl ⟨by rfl, by (intro w' hSw; go_simp; try with_reducible rfl)⟩) rfl (by assumption) ?_; simp only [lset]
            refine take_s (v := .pointer (some ⟨b, o + k * 5, none⟩)) (i := 3) rfl (by kernel_rfl) (by kernel_rfl) (by kernel_rfl) (fun _ _ _ h => h) (Or.inl ⟨by rfl, by (intro w' hSw; go_simp; try with_reducible rfl)⟩) rfl (by assumption) ?_; simp only [lset]
            refine take_s (v := .agg (celX x)) (i := 4) rfl (by kernel_rfl) (by kernel_rfl) (by kernel_rfl) (fun _ _ _ h => h) (Or.inl ⟨by rfl, by (intro w' hSw; exact ldA_run hSw.2.1.ld rfl rfl)⟩) rfl (by assumption) ?_; simp only [lset]
            refine take_s (i := 5) rfl (by kernel_rfl) (by kernel_rfl) (by kernel_rfl) (fun _ _ _ h => h) (Or.inl ⟨by rfl, by (intro w' hSw; go_simp; try with_reducible rfl)⟩) rfl (by assumption) ?_; simp only [lset]
            refine take_s (i := 6) rfl (by kernel_rfl) (by kernel_rfl) (by kernel_rfl) (fun _ _ _ h => h) (Or.inl ⟨by rfl, by (intro w' hSw; go_simp; try with_reducible rfl)⟩) rfl (by assumption) ?_; simp only [lset]
            refine take_s (v := .pointer (some ⟨b', o' + k * 5, none⟩)) (i := 7) rfl (by kernel_rfl) (by kernel_rfl) (by kernel_rfl) (fun _ _ _ h => h) (Or.inl ⟨by rfl, by (intro w' hSw; go_simp; try with_reducible rfl)⟩) rfl (by assumption) ?_; simp only [lset]
            refine take_s (v := .agg (celX x)) (i := 8) rfl (by kernel_rfl) (by kernel_rfl) (by kernel_rfl) (fun _ _ _ h => h) (Or.inl ⟨by rfl, by (intro w' hSw; exact ldA_run hSw.2.2.ld rfl rfl)⟩) rfl (by assumption) ?_; simp only [lset]
            refine call_s (i := 9) (by kernel_rfl) rfl rfl (by rfl) (fun K hK => ?_)
            go_simp
            refine (C1.out _).mono ?_
            rintro e w2 ⟨rfl, b2⟩
            have B2 := Lib.hid (HW.out.trans (((Below.refl _ _).drew.trans b2).mono HW.out.size))
            have hHeld2 := And.intro ((World.cell?_of_block (b2.block _ HL.out.2.2)).trans CW.out) (And.intro (CA.out.on ((Below.refl _ _).drew.trans b2) HL.out.1) (CB.out.on ((Below.refl _ _).drew.trans b2) HL.out.2.1))
            refine hK.out _ _ hHeld2 ?_; clear hK K hHeld b2 C1 CA CB CW HL HW; simp only [lset]
            refine take_s (i := 10) rfl (by kernel_rfl) (by kernel_rfl) (by kernel_rfl) (fun _ _ _ h => h) (Or.inl ⟨by rfl, by (intro w' hSw; go_simp; try with_reducible rfl)⟩) rfl (by assumption) ?_; simp only [lset]
            refine wpAnyH_done (by kernel_rfl) ?_ _
            go_wp2_with fail
            go_roundw
            case rel => exact ⟨k + 1, by go_num, Lib.hid (by have := HKN.out; omega), B2⟩
            case measure => have := HKN.out; simp [intOf]; omega
          · skip
            have t1 : decide ((k : Int) < (lc.length : Int)) = false := decide_eq_false (by omega)
            have t2 : ¬ ((k : Int) < (lc.length : Int)) := by omega
            clear hkn
            go_wp2_with fail
            refine (C3.out _).mono ?_
            rintro e w3 ⟨rfl, b3⟩
            have B3 := Lib.hid (B17.out.trans ((HW.out.trans (b3.mono HW.out.size)).mono B17.out.size))
            go_wp2
            go_ret
            exact ⟨rfl, B3.out⟩
      · skip
        clear HEL HKE
        go_upto_region 19 with (refine ldP (k := 64) (ldSegD E14.out) rfl (by kernel_rfl) rfl rfl ?_)
        clear c14 E14
        have hg15 : W13.alloc (.cells (celD 0 ve ⟨#[]⟩) 63) = W13.alloc (.cells (celD (outK 2) (outV 2 ve) ⟨#[]⟩) 63) := rfl
        rw [hg15]
        clear hg15
        obtain ⟨rk, hrk⟩ : ∃ rk, outK 2 = rk := ⟨_, rfl⟩
        obtain ⟨rv, hrv⟩ : ∃ rv, outV 2 ve = rv := ⟨_, rfl⟩
        rw [hrk, hrv] at KR ⊢
        clear hrk hrv
        have bE := below_a1 W13 (.cells (celD rk rv ⟨#[]⟩) 63)
        have ks := new1 W13 (celD rk rv ⟨#[]⟩) 63
        obtain ⟨W15, hW15⟩ : ∃ W15, W13.alloc (.cells (celD rk rv ⟨#[]⟩) 63) = W15 := ⟨_, rfl⟩
        rw [hW15] at bE ks ⊢
        have hS := S13.out
        have kmc : W15.cell? ⟨wb + 1, 0, none⟩ = some (.int .i64 1) := (cell_of_row _ _ 0 _ _ _ ((bE.block _ (by omega)).trans KM13.out)).trans rfl
        have kw15 := (bE.block _ (show wb < W13.heap.size by omega)).trans KW13.out
        have kfc : W15.cell? ⟨wb, 0, none⟩ = some (.int .i64 0) := (cell_of_row _ _ 0 _ _ _ kw15).trans rfl
        have kac : W15.cell? ⟨wb, 6, none⟩ = some (.slice A9 lc.length c9) := (cell_of_row _ _ 6 _ _ _ kw15).trans rfl
        have KW := Lib.hid kw15
        have KF := Lib.hid ((bE.block _ (show w.heap.size + 1 < W13.heap.size by omega)).trans F13.out)
        have KR15 := Lib.hid ((bE.block _ (show W12.heap.size < W13.heap.size by omega)).trans KR.out)
        have KS := Lib.hid ks
        have V9e := Lib.hid (V9.out.on (bE.mono (show W12.heap.size ≤ W13.heap.size by omega)))
        have V7e := Lib.hid (V7.out.on (bE.mono (show W12.heap.size ≤ W13.heap.size by omega)))
        have B15 := Lib.hid (B13.out.trans (bE.mono B13.out.size))
        have S15 := Lib.hid (show wb + 1 < W15.heap.size ∧ w.heap.size ≤ W15.heap.size ∧ w.heap.size + 1 < W15.heap.size ∧ W12.heap.size < W15.heap.size ∧ W13.heap.size < W15.heap.size from by
          have h1 := bE.size
          have h2 := (Array.getElem?_eq_some_iff.1 ks).1
          exact ⟨by omega, by omega, by omega, by omega, h2⟩)
        have C1 := Lib.hid (fun W => fBits_any v1 v1 W)
        rw [bits_self] at C1
        have C2 := Lib.hid (fun W => same_self rk rv ⟨#[]⟩ W)
        have C3 := Lib.hid (fun W => awake_any W)
        clear bE ks hS kw15 hW15 E13 F13 KM13 KW13 V9 V7 B13 KR S13
        go_wp2_with (first | refine ldP (k := 80) (ldSegW KW.out) rfl (by kernel_rfl) rfl rfl ?_ | refine ldP (k := 81) (run_loadVar_row _ (w.heap.size + 1) 57 57 _ (0, 0) _ KF.out Tryz.underlying57 rfl (by kernel_rfl)) rfl (by kernel_rfl) rfl rfl ?_)
        refine (C1.out _).mono ?_
        rintro e W16 ⟨rfl, b16⟩
        have hS := S15.out
        have kw16 := (b16.block _ (show wb < W15.heap.size by omega)).trans KW.out
        have kad : W16.cell? ⟨wb, 6, none⟩ = some (.slice A9 lc.length c9) := (cell_of_row _ _ 6 _ _ _ kw16).trans rfl
        have KW6 := Lib.hid kw16
        have KR6 := Lib.hid ((b16.block _ (show W12.heap.size < W15.heap.size by omega)).trans KR15.out)
        have KS6 := Lib.hid ((b16.block _ (show W13.heap.size < W15.heap.size by omega)).trans KS.out)
        have B16 := Lib.hid (B15.out.trans (b16.mono B15.out.size))
        have V9f := Lib.hid (V9e.out.on (b16.mono (by omega)))
        have V7f := Lib.hid (V7e.out.on (b16.mono (by omega)))
        have S16 := Lib.hid (show wb < W16.heap.size by have := b16.size; omega)
        have D16 := Lib.hid (show W12.heap.size < W16.heap.size by have := b16.size; omega)
        clear b16 hS kw16 kmc kfc kac KW KF KR15 KS B15 V9e V7e S15 C1
        go_wp2_with (first | refine ldP (k := 94) (run_loadVar_row _ W12.heap.size 63 63 _ (0, 0) _ KR6.out Tryz.underlying63 rfl (by kernel_rfl)) rfl (by kernel_rfl) rfl rfl ?_ | refine ldP (k := 95) (run_loadVar_row _ W13.heap.size 63 63 _ (0, 0) _ KS6.out Tryz.underlying63 rfl (by kernel_rfl)) rfl (by kernel_rfl) rfl rfl ?_)
        refine (C2.out _).mono ?_
        rintro e W17 ⟨rfl, b17⟩
        have KW7 := Lib.hid ((b17.block _ S16.out).trans KW6.out)
        have B17 := Lib.hid (B16.out.trans (b17.mono B16.out.size))
        have V9g := Lib.hid ((V9f.out.on (b17.mono (Nat.le_of_lt D16.out))))
        have V7g := Lib.hid ((V7f.out.on (b17.mono (Nat.le_of_lt D16.out))))
        have S17 := Lib.hid (show wb < W17.heap.size ∧ W12.heap.size ≤ W17.heap.size by have := b17.size; have := S16.out; have := D16.out; omega)
        clear b17 kad KR6 KS6 B16 V9f V7f S16 D16 KW6 C2
        go_wp2_with fail
        go_loopw [16] (fun v16 wr => ∃ k : Nat, v16 = .int .i64 (k : Nat) ∧ Hid (k ≤ lc.length) ∧ Hid (Below W17.heap.size W17 wr)) (fun v16 _ => ((lc.length : Int) - intOf v16).toNat)
        case atStart => exact ⟨0, rfl, Lib.hid (Nat.zero_le _), Lib.hid (Below.refl _ _)⟩
        case round =>
          obtain ⟨k, rfl, HK, HW⟩ := hrel
          by_cases hkn : k < lc.length
          · skip
            have hm' := HSZ2.out.1
            have t1 : decide ((k : Int) < (lc.length : Int)) = true := decide_eq_true (by omega)
            have t2 : (k : Int) < (lc.length : Int) := by omega
            have t3 : (0 : Int) ≤ (k : Int) := by omega
            have k1 : IntKind.i64.wrap ((k : Int) + 1) = ((k + 1 : Nat) : Int) := by rw [IntWalk.i64_in _ (by omega)]; omega
            obtain ⟨x, hx⟩ : ∃ x, lc[k]? = some x := ⟨_, List.getElem?_eq_getElem hkn⟩
            obtain ⟨b, o, hA, hbl, hat⟩ := V9g.out.at' (by rintro rfl; simp at hkn)
            obtain ⟨b', o', hA', hbl', hat'⟩ := V7g.out.at' (by rintro rfl; simp at hkn)
            subst hA
            subst hA'
            have hS := S17.out
            have CA := Lib.hid ((hat k x hx).on HW.out (by omega))
            have CB := Lib.hid ((hat' k x hx).on HW.out (by omega))
            have CW := Lib.hid ((cell_of_row _ _ 6 _ _ _ ((HW.out.block _ hS.1).trans KW7.out)).trans (show (celE 0 v1 (.slice (some ⟨b, o, none⟩) lc.length c9))[6]? = some (.slice (some ⟨b, o, none⟩) lc.length c9) from rfl))
            have HL := Lib.hid (show b < wr.heap.size ∧ b' < wr.heap.size ∧ wb < wr.heap.size by have := HW.out.size; omega)
            have HKN := Lib.hid hkn
            have C1 := Lib.hid (fun W => fBits_any x x W)
            rw [bits_self] at C1
            clear hx hkn hm' hat hat' hbl hbl' hS
            go_upto_region 24 with fail
            refine wp_region_held_drew (S := fun W => W.cell? ⟨wb, 6, none⟩ = some (.slice (some ⟨b, o, none⟩) lc.length c9) ∧ CelAt W b (o + k * 5) x ∧ CelAt W b' (o' + k * 5) x) (by kernel_rfl) ⟨CW.out, CA.out.on (Below.refl _ _).drew HL.out.1, CB.out.on (Below.refl _ _).drew HL.out.2.1⟩ (fun hHeld => ?_)
            refine take_s (i := 0) rfl (by kernel_rfl) (by kernel_rfl) (by kernel_rfl) (fun _ _ _ h => h) (Or.inl ⟨by rfl, by (intro w' hSw; go_simp; try with_reducible rfl)⟩) rfl (by assumption) ?_; simp only [lset]
            refine take_s (v := .slice (some ⟨b, o, none⟩) lc.length c9) (i := 1) rfl (by kernel_rfl) (by kernel_rfl) (by kernel_rfl) (fun _ _ _ h => h) (Or.inl ⟨by rfl, by (intro w' hSw; have c := hSw.1; go_simp)⟩) rfl (by assumption) ?_; simp only [lset]
            refine take_s (i := 2) rfl (by kernel_rfl) (by kernel_rfl) (by kernel_rfl) (fun _ _ _ h => h) (Or.inl ⟨by rfl, by (intro w' hSw; go_simp; try with_reducible rfl)⟩) rfl (by assumption) ?_; simp only [lset]
            refine take_s (v := .pointer (some ⟨b, o + k * 5, none⟩)) (i := 3) rfl (by kernel_rfl) (by kernel_rfl) (by kernel_rfl) (fun _ _ _ h => h) (Or.inl ⟨by rfl, by (intro w' hSw; go_simp; try with_reducible rfl)⟩) rfl (by assumption) ?_; simp only [lset]
            refine take_s (v := .agg (celX x)) (i := 4) rfl (by kernel_rfl) (by kernel_rfl) (by kernel_rfl) (fun _ _ _ h => h) (Or.inl ⟨by rfl, by (intro w' hSw; exact ldA_run hSw.2.1.ld rfl rfl)⟩) rfl (by assumption) ?_; simp only [lset]
            refine take_s (i := 5) rfl (by kernel_rfl) (by kernel_rfl) (by kernel_rfl) (fun _ _ _ h => h) (Or.inl ⟨by rfl, by (intro w' hSw; go_simp; try with_reducible rfl)⟩) rfl (by assumption) ?_; simp only [lset]
            refine take_s (i := 6) rfl (by kernel_rfl) (by kernel_rfl) (by kernel_rfl) (fun _ _ _ h => h) (Or.inl ⟨by rfl, by (intro w' hSw; go_simp; try with_reducible rfl)⟩) rfl (by assumption) ?_; simp only [lset]
            refine take_s (v := .pointer (some ⟨b', o' + k * 5, none⟩)) (i := 7) rfl (by kernel_rfl) (by kernel_rfl) (by kernel_rfl) (fun _ _ _ h => h) (Or.inl ⟨by rfl, by (intro w' hSw; go_simp; try with_reducible rfl)⟩) rfl (by assumption) ?_; simp only [lset]
            refine take_s (v := .agg (celX x)) (i := 8) rfl (by kernel_rfl) (by kernel_rfl) (by kernel_rfl) (fun _ _ _ h => h) (Or.inl ⟨by rfl, by (intro w' hSw; exact ldA_run hSw.2.2.ld rfl rfl)⟩) rfl (by assumption) ?_; simp only [lset]
            refine call_s (i := 9) (by kernel_rfl) rfl rfl (by rfl) (fun K hK => ?_)
            go_simp
            refine (C1.out _).mono ?_
            rintro e w2 ⟨rfl, b2⟩
            have B2 := Lib.hid (HW.out.trans (((Below.refl _ _).drew.trans b2).mono HW.out.size))
            have hHeld2 := And.intro ((World.cell?_of_block (b2.block _ HL.out.2.2)).trans CW.out) (And.intro (CA.out.on ((Below.refl _ _).drew.trans b2) HL.out.1) (CB.out.on ((Below.refl _ _).drew.trans b2) HL.out.2.1))
            refine hK.out _ _ hHeld2 ?_; clear hK K hHeld b2 C1 CA CB CW HL HW; simp only [lset]
            refine take_s (i := 10) rfl (by kernel_rfl) (by kernel_rfl) (by kernel_rfl) (fun _ _ _ h => h) (Or.inl ⟨by rfl, by (intro w' hSw; go_simp; try with_reducible rfl)⟩) rfl (by assumption) ?_; simp only [lset]
            refine wpAnyH_done (by kernel_rfl) ?_ _
            go_wp2_with fail
            go_roundw
            case rel => exact ⟨k + 1, by go_num, Lib.hid (by have := HKN.out; omega), B2⟩
            case measure => have := HKN.out; simp [intOf]; omega
          · skip
            have t1 : decide ((k : Int) < (lc.length : Int)) = false := decide_eq_false (by omega)
            have t2 : ¬ ((k : Int) < (lc.length : Int)) := by omega
            clear hkn
            go_wp2_with fail
            refine (C3.out _).mono ?_
            rintro e w3 ⟨rfl, b3⟩
            have B3 := Lib.hid (B17.out.trans ((HW.out.trans (b3.mono HW.out.size)).mono B17.out.size))
            go_wp2
            go_ret
            exact ⟨rfl, B3.out⟩
      · skip
        clear HEL HKE
        go_upto_region 19 with fail
        clear c14 E14
        have hg15 : W13.alloc (.cells (zD) 63) = W13.alloc (.cells (celD (outK 3) (outV 3 ve) ⟨#[]⟩) 63) := rfl
        rw [hg15]
        clear hg15
        obtain ⟨rk, hrk⟩ : ∃ rk, outK 3 = rk := ⟨_, rfl⟩
        obtain ⟨rv, hrv⟩ : ∃ rv, outV 3 ve = rv := ⟨_, rfl⟩
        rw [hrk, hrv] at KR ⊢
        clear hrk hrv
        have bE := below_a1 W13 (.cells (celD rk rv ⟨#[]⟩) 63)
        have ks := new1 W13 (celD rk rv ⟨#[]⟩) 63
        obtain ⟨W15, hW15⟩ : ∃ W15, W13.alloc (.cells (celD rk rv ⟨#[]⟩) 63) = W15 := ⟨_, rfl⟩
        rw [hW15] at bE ks ⊢
        have hS := S13.out
        have kmc : W15.cell? ⟨wb + 1, 0, none⟩ = some (.int .i64 1) := (cell_of_row _ _ 0 _ _ _ ((bE.block _ (by omega)).trans KM13.out)).trans rfl
        have kw15 := (bE.block _ (show wb < W13.heap.size by omega)).trans KW13.out
        have kfc : W15.cell? ⟨wb, 0, none⟩ = some (.int .i64 0) := (cell_of_row _ _ 0 _ _ _ kw15).trans rfl
        have kac : W15.cell? ⟨wb, 6, none⟩ = some (.slice A9 lc.length c9) := (cell_of_row _ _ 6 _ _ _ kw15).trans rfl
        have KW := Lib.hid kw15
        have KF := Lib.hid ((bE.block _ (show w.heap.size + 1 < W13.heap.size by omega)).trans F13.out)
        have KR15 := Lib.hid ((bE.block _ (show W12.heap.size < W13.heap.size by omega)).trans KR.out)
        have KS := Lib.hid ks
        have V9e := Lib.hid (V9.out.on (bE.mono (show W12.heap.size ≤ W13.heap.size by omega)))
        have V7e := Lib.hid (V7.out.on (bE.mono (show W12.heap.size ≤ W13.heap.size by omega)))
        have B15 := Lib.hid (B13.out.trans (bE.mono B13.out.size))
        have S15 := Lib.hid (show wb + 1 < W15.heap.size ∧ w.heap.size ≤ W15.heap.size ∧ w.heap.size + 1 < W15.heap.size ∧ W12.heap.size < W15.heap.size ∧ W13.heap.size < W15.heap.size from by
          have h1 := bE.size
          have h2 := (Array.getElem?_eq_some_iff.1 ks).1
          exact ⟨by omega, by omega, by omega, by omega, h2⟩)
        have C1 := Lib.hid (fun W => fBits_any v1 v1 W)
        rw [bits_self] at C1
        have C2 := Lib.hid (fun W => same_self rk rv ⟨#[]⟩ W)
        have C3 := Lib.hid (fun W => awake_any W)
        clear bE ks hS kw15 hW15 E13 F13 KM13 KW13 V9 V7 B13 KR S13
        go_wp2_with (first | refine ldP (k := 80) (ldSegW KW.out) rfl (by kernel_rfl) rfl rfl ?_ | refine ldP (k := 81) (run_loadVar_row _ (w.heap.size + 1) 57 57 _ (0, 0) _ KF.out Tryz.underlying57 rfl (by kernel_rfl)) rfl (by kernel_rfl) rfl rfl ?_)
        refine (C1.out _).mono ?_
        rintro e W16 ⟨rfl, b16⟩
        have hS := S15.out
        have kw16 := (b16.block _ (show wb < W15.heap.size by omega)).trans KW.out
        have kad : W16.cell? ⟨wb, 6, none⟩ = some (.slice A9 lc.length c9) := (cell_of_row _ _ 6 _ _ _ kw16).trans rfl
        have KW6 := Lib.hid kw16
        have KR6 := Lib.hid ((b16.block _ (show W12.heap.size < W15.heap.size by omega)).trans KR15.out)
        have KS6 := Lib.hid ((b16.block _ (show W13.heap.size < W15.heap.size by omega)).trans KS.out)
        have B16 := Lib.hid (B15.out.trans (b16.mono B15.out.size))
        have V9f := Lib.hid (V9e.out.on (b16.mono (by omega)))
        have V7f := Lib.hid (V7e.out.on (b16.mono (by omega)))
        have S16 := Lib.hid (show wb < W16.heap.size by have := b16.size; omega)
        have D16 := Lib.hid (show W12.heap.size < W16.heap.size by have := b16.size; omega)
        clear b16 hS kw16 kmc kfc kac KW KF KR15 KS B15 V9e V7e S15 C1
        go_wp2_with (first | refine ldP (k := 94) (run_loadVar_row _ W12.heap.size 63 63 _ (0, 0) _ KR6.out Tryz.underlying63 rfl (by kernel_rfl)) rfl (by kernel_rfl) rfl rfl ?_ | refine ldP (k := 95) (run_loadVar_row _ W13.heap.size 63 63 _ (0, 0) _ KS6.out Tryz.underlying63 rfl (by kernel_rfl)) rfl (by kernel_rfl) rfl rfl ?_)
        refine (C2.out _).mono ?_
        rintro e W17 ⟨rfl, b17⟩
        have KW7 := Lib.hid ((b17.block _ S16.out).trans KW6.out)
        have B17 := Lib.hid (B16.out.trans (b17.mono B16.out.size))
        have V9g := Lib.hid ((V9f.out.on (b17.mono (Nat.le_of_lt D16.out))))
        have V7g := Lib.hid ((V7f.out.on (b17.mono (Nat.le_of_lt D16.out))))
        have S17 := Lib.hid (show wb < W17.heap.size ∧ W12.heap.size ≤ W17.heap.size by have := b17.size; have := S16.out; have := D16.out; omega)
        clear b17 kad KR6 KS6 B16 V9f V7f S16 D16 KW6 C2
        go_wp2_with fail
        go_loopw [16] (fun v16 wr => ∃ k : Nat, v16 = .int .i64 (k : Nat) ∧ Hid (k ≤ lc.length) ∧ Hid (Below W17.heap.size W17 wr)) (fun v16 _ => ((lc.length : Int) - intOf v16).toNat)
        case atStart => exact ⟨0, rfl, Lib.hid (Nat.zero_le _), Lib.hid (Below.refl _ _)⟩
        case round =>
          obtain ⟨k, rfl, HK, HW⟩ := hrel
          by_cases hkn : k < lc.length
          · skip
            have hm' := HSZ2.out.1
            have t1 : decide ((k : Int) < (lc.length : Int)) = true := decide_eq_true (by omega)
            have t2 : (k : Int) < (lc.length : Int) := by omega
            have t3 : (0 : Int) ≤ (k : Int) := by omega
            have k1 : IntKind.i64.wrap ((k : Int) + 1) = ((k + 1 : Nat) : Int) := by rw [IntWalk.i64_in _ (by omega)]; omega
            obtain ⟨x, hx⟩ : ∃ x, lc[k]? = some x := ⟨_, List.getElem?_eq_getElem hkn⟩
            obtain ⟨b, o, hA, hbl, hat⟩ := V9g.out.at' (by rintro rfl; simp at hkn)
            obtain ⟨b', o', hA', hbl', hat'⟩ := V7g.out.at' (by rintro rfl; simp at hkn)
            subst hA
            subst hA'
            have hS := S17.out
            have CA := Lib.hid ((hat k x hx).on HW.out (by omega))
            have CB := Lib.hid ((hat' k x hx).on HW.out (by omega))
            have CW := Lib.hid ((cell_of_row _ _ 6 _ _ _ ((HW.out.block _ hS.1).trans KW7.out)).trans (show (celE 0 v1 (.slice (some ⟨b, o, none⟩) lc.length c9))[6]? = some (.slice (some ⟨b, o, none⟩) lc.length c9) from rfl))
            have HL := Lib.hid (show b < wr.heap.size ∧ b' < wr.heap.size ∧ wb < wr.heap.size by have := HW.out.size; omega)
            have HKN := Lib.hid hkn
            have C1 := Lib.hid (fun W => fBits_any x x W)
            rw [bits_self] at C1
            clear hx hkn hm' hat hat' hbl hbl' hS
            go_upto_region 24 with fail
            refine wp_region_held_drew (S := fun W => W.cell? ⟨wb, 6, none⟩ = some (.slice (some ⟨b, o, none⟩) lc.length c9) ∧ CelAt W b (o + k * 5) x ∧ CelAt W b' (o' + k * 5) x) (by kernel_rfl) ⟨CW.out, CA.out.on (Below.refl _ _).drew HL.out.1, CB.out.on (Below.refl _ _).drew HL.out.2.1⟩ (fun hHeld => ?_)
            refine take_s (i := 0) rfl (by kernel_rfl) (by kernel_rfl) (by kernel_rfl) (fun _ _ _ h => h) (Or.inl ⟨by rfl, by (intro w' hSw; go_simp; try with_reducible rfl)⟩) rfl (by assumption) ?_; simp only [lset]
            refine take_s (v := .slice (some ⟨b, o, none⟩) lc.length c9) (i := 1) rfl (by kernel_rfl) (by kernel_rfl) (by kernel_rfl) (fun _ _ _ h => h) (Or.inl ⟨by rfl, by (intro w' hSw; have c := hSw.1; go_simp)⟩) rfl (by assumption) ?_; simp only [lset]
            refine take_s (i := 2) rfl (by kernel_rfl) (by kernel_rfl) (by kernel_rfl) (fun _ _ _ h => h) (Or.inl ⟨by rfl, by (intro w' hSw; go_simp; try with_reducible rfl)⟩) rfl (by assumption) ?_; simp only [lset]
            refine take_s (v := .pointer (some ⟨b, o + k * 5, none⟩)) (i := 3) rfl (by kernel_rfl) (by kernel_rfl) (by kernel_rfl) (fun _ _ _ h => h) (Or.inl ⟨by rfl, by (intro w' hSw; go_simp; try with_reducible rfl)⟩) rfl (by assumption) ?_; simp only [lset]
            refine take_s (v := .agg (celX x)) (i := 4) rfl (by kernel_rfl) (by kernel_rfl) (by kernel_rfl) (fun _ _ _ h => h) (Or.inl ⟨by rfl, by (intro w' hSw; exact ldA_run hSw.2.1.ld rfl rfl)⟩) rfl (by assumption) ?_; simp only [lset]
            refine take_s (i := 5) rfl (by kernel_rfl) (by kernel_rfl) (by kernel_rfl) (fun _ _ _ h => h) (Or.inl ⟨by rfl, by (intro w' hSw; go_simp; try with_reducible rfl)⟩) rfl (by assumption) ?_; simp only [lset]
            refine take_s (i := 6) rfl (by kernel_rfl) (by kernel_rfl) (by kernel_rfl) (fun _ _ _ h => h) (Or.inl ⟨by rfl, by (intro w' hSw; go_simp; try with_reducible rfl)⟩) rfl (by assumption) ?_; simp only [lset]
            refine take_s (v := .pointer (some ⟨b', o' + k * 5, none⟩)) (i := 7) rfl (by kernel_rfl) (by kernel_rfl) (by kernel_rfl) (fun _ _ _ h => h) (Or.inl ⟨by rfl, by (intro w' hSw; go_simp; try with_reducible rfl)⟩) rfl (by assumption) ?_; simp only [lset]
            refine take_s (v := .agg (celX x)) (i := 8) rfl (by kernel_rfl) (by kernel_rfl) (by kernel_rfl) (fun _ _ _ h => h) (Or.inl ⟨by rfl, by (intro w' hSw; exact ldA_run hSw.2.2.ld rfl rfl)⟩) rfl (by assumption) ?_; simp only [lset]
            refine call_s (i := 9) (by kernel_rfl) rfl rfl (by rfl) (fun K hK => ?_)
            go_simp
            refine (C1.out _).mono ?_
            rintro e w2 ⟨rfl, b2⟩
            have B2 := Lib.hid (HW.out.trans (((Below.refl _ _).drew.trans b2).mono HW.out.size))
            have hHeld2 := And.intro ((World.cell?_of_block (b2.block _ HL.out.2.2)).trans CW.out) (And.intro (CA.out.on ((Below.refl _ _).drew.trans b2) HL.out.1) (CB.out.on ((Below.refl _ _).drew.trans b2) HL.out.2.1))
            refine hK.out _ _ hHeld2 ?_; clear hK K hHeld b2 C1 CA CB CW HL HW; simp only [lset]
            refine take_s (i := 10) rfl (by kernel_rfl) (by kernel_rfl) (by kernel_rfl) (fun _ _ _ h => h) (Or.inl ⟨by rfl, by (intro w' hSw; go_simp; try with_reducible rfl)⟩) rfl (by assumption) ?_; simp only [lset]
            refine wpAnyH_done (by kernel_rfl) ?_ _
            go_wp2_with fail
            go_roundw
            case rel => exact ⟨k + 1, by go_num, Lib.hid (by have := HKN.out; omega), B2⟩
            case measure => have := HKN.out; simp [intOf]; omega
          · skip
            have t1 : decide ((k : Int) < (lc.length : Int)) = false := decide_eq_false (by omega)
            have t2 : ¬ ((k : Int) < (lc.length : Int)) := by omega
            clear hkn
            go_wp2_with fail
            refine (C3.out _).mono ?_
            rintro e w3 ⟨rfl, b3⟩
            have B3 := Lib.hid (B17.out.trans ((HW.out.trans (b3.mono HW.out.size)).mono B17.out.size))
            go_wp2
            go_ret
            exact ⟨rfl, B3.out⟩
      · skip
        clear HEL HKE
        go_upto_region 19 with fail
        clear c14 E14
        have hg15 : W13.alloc (.cells (zD) 63) = W13.alloc (.cells (celD (outK 4) (outV 4 ve) ⟨#[]⟩) 63) := rfl
        rw [hg15]
        clear hg15
        obtain ⟨rk, hrk⟩ : ∃ rk, outK 4 = rk := ⟨_, rfl⟩
        obtain ⟨rv, hrv⟩ : ∃ rv, outV 4 ve = rv := ⟨_, rfl⟩
        rw [hrk, hrv] at KR ⊢
        clear hrk hrv
        have bE := below_a1 W13 (.cells (celD rk rv ⟨#[]⟩) 63)
        have ks := new1 W13 (celD rk rv ⟨#[]⟩) 63
        obtain ⟨W15, hW15⟩ : ∃ W15, W13.alloc (.cells (celD rk rv ⟨#[]⟩) 63) = W15 := ⟨_, rfl⟩
        rw [hW15] at bE ks ⊢
        have hS := S13.out
        have kmc : W15.cell? ⟨wb + 1, 0, none⟩ = some (.int .i64 1) := (cell_of_row _ _ 0 _ _ _ ((bE.block _ (by omega)).trans KM13.out)).trans rfl
        have kw15 := (bE.block _ (show wb < W13.heap.size by omega)).trans KW13.out
        have kfc : W15.cell? ⟨wb, 0, none⟩ = some (.int .i64 0) := (cell_of_row _ _ 0 _ _ _ kw15).trans rfl
        have kac : W15.cell? ⟨wb, 6, none⟩ = some (.slice A9 lc.length c9) := (cell_of_row _ _ 6 _ _ _ kw15).trans rfl
        have KW := Lib.hid kw15
        have KF := Lib.hid ((bE.block _ (show w.heap.size + 1 < W13.heap.size by omega)).trans F13.out)
        have KR15 := Lib.hid ((bE.block _ (show W12.heap.size < W13.heap.size by omega)).trans KR.out)
        have KS := Lib.hid ks
        have V9e := Lib.hid (V9.out.on (bE.mono (show W12.heap.size ≤ W13.heap.size by omega)))
        have V7e := Lib.hid (V7.out.on (bE.mono (show W12.heap.size ≤ W13.heap.size by omega)))
        have B15 := Lib.hid (B13.out.trans (bE.mono B13.out.size))
        have S15 := Lib.hid (show wb + 1 < W15.heap.size ∧ w.heap.size ≤ W15.heap.size ∧ w.heap.size + 1 < W15.heap.size ∧ W12.heap.size < W15.heap.size ∧ W13.heap.size < W15.heap.size from by
          have h1 := bE.size
          have h2 := (Array.getElem?_eq_some_iff.1 ks).1
          exact ⟨by omega, by omega, by omega, by omega, h2⟩)
        have C1 := Lib.hid (fun W => fBits_any v1 v1 W)
        rw [bits_self] at C1
        have C2 := Lib.hid (fun W => same_self rk rv ⟨#[]⟩ W)
        have C3 := Lib.hid (fun W => awake_any W)
        clear bE ks hS kw15 hW15 E13 F13 KM13 KW13 V9 V7 B13 KR S13
        go_wp2_with (first | refine ldP (k := 80) (ldSegW KW.out) rfl (by kernel_rfl) rfl rfl ?_ | refine ldP (k := 81) (run_loadVar_row _ (w.heap.size + 1) 57 57 _ (0, 0) _ KF.out Tryz.underlying57 rfl (by kernel_rfl)) rfl (by kernel_rfl) rfl rfl ?_)
        refine (C1.out _).mono ?_
        rintro e W16 ⟨rfl, b16⟩
        have hS := S15.out
        have kw16 := (b16.block _ (show wb < W15.heap.size by omega)).trans KW.out
        have kad : W16.cell? ⟨wb, 6, none⟩ = some (.slice A9 lc.length c9) := (cell_of_row _ _ 6 _ _ _ kw16).trans rfl
        have KW6 := Lib.hid kw16
        have KR6 := Lib.hid ((b16.block _ (show W12.heap.size < W15.heap.size by omega)).trans KR15.out)
        have KS6 := Lib.hid ((b16.block _ (show W13.heap.size < W15.heap.size by omega)).trans KS.out)
        have B16 := Lib.hid (B15.out.trans (b16.mono B15.out.size))
        have V9f := Lib.hid (V9e.out.on (b16.mono (by omega)))
        have V7f := Lib.hid (V7e.out.on (b16.mono (by omega)))
        have S16 := Lib.hid (show wb < W16.heap.size by have := b16.size; omega)
        have D16 := Lib.hid (show W12.heap.size < W16.heap.size by have := b16.size; omega)
        clear b16 hS kw16 kmc kfc kac KW KF KR15 KS B15 V9e V7e S15 C1
        go_wp2_with (first | refine ldP (k := 94) (run_loadVar_row _ W12.heap.size 63 63 _ (0, 0) _ KR6.out Tryz.underlying63 rfl (by kernel_rfl)) rfl (by kernel_rfl) rfl rfl ?_ | refine ldP (k := 95) (run_loadVar_row _ W13.heap.size 63 63 _ (0, 0) _ KS6.out Tryz.underlying63 rfl (by kernel_rfl)) rfl (by kernel_rfl) rfl rfl ?_)
        refine (C2.out _).mono ?_
        rintro e W17 ⟨rfl, b17⟩
        have KW7 := Lib.hid ((b17.block _ S16.out).trans KW6.out)
        have B17 := Lib.hid (B16.out.trans (b17.mono B16.out.size))
        have V9g := Lib.hid ((V9f.out.on (b17.mono (Nat.le_of_lt D16.out))))
        have V7g := Lib.hid ((V7f.out.on (b17.mono (Nat.le_of_lt D16.out))))
        have S17 := Lib.hid (show wb < W17.heap.size ∧ W12.heap.size ≤ W17.heap.size by have := b17.size; have := S16.out; have := D16.out; omega)
        clear b17 kad KR6 KS6 B16 V9f V7f S16 D16 KW6 C2
        go_wp2_with fail
        go_loopw [16] (fun v16 wr => ∃ k : Nat, v16 = .int .i64 (k : Nat) ∧ Hid (k ≤ lc.length) ∧ Hid (Below W17.heap.size W17 wr)) (fun v16 _ => ((lc.length : Int) - intOf v16).toNat)
        case atStart => exact ⟨0, rfl, Lib.hid (Nat.zero_le _), Lib.hid (Below.refl _ _)⟩
        case round =>
          obtain ⟨k, rfl, HK, HW⟩ := hrel
          by_cases hkn : k < lc.length
          · skip
            have hm' := HSZ2.out.1
            have t1 : decide ((k : Int) < (lc.length : Int)) = true := decide_eq_true (by omega)
            have t2 : (k : Int) < (lc.length : Int) := by omega
            have t3 : (0 : Int) ≤ (k : Int) := by omega
            have k1 : IntKind.i64.wrap ((k : Int) + 1) = ((k + 1 : Nat) : Int) := by rw [IntWalk.i64_in _ (by omega)]; omega
            obtain ⟨x, hx⟩ : ∃ x, lc[k]? = some x := ⟨_, List.getElem?_eq_getElem hkn⟩
            obtain ⟨b, o, hA, hbl, hat⟩ := V9g.out.at' (by rintro rfl; simp at hkn)
            obtain ⟨b', o', hA', hbl', hat'⟩ := V7g.out.at' (by rintro rfl; simp at hkn)
            subst hA
            subst hA'
            have hS := S17.out
            have CA := Lib.hid ((hat k x hx).on HW.out (by omega))
            have CB := Lib.hid ((hat' k x hx).on HW.out (by omega))
            have CW := Lib.hid ((cell_of_row _ _ 6 _ _ _ ((HW.out.block _ hS.1).trans KW7.out)).trans (show (celE 0 v1 (.slice (some ⟨b, o, none⟩) lc.length c9))[6]? = some (.slice (some ⟨b, o, none⟩) lc.length c9) from rfl))
            have HL := Lib.hid (show b < wr.heap.size ∧ b' < wr.heap.size ∧ wb < wr.heap.size by have := HW.out.size; omega)
            have HKN := Lib.hid hkn
            have C1 := Lib.hid (fun W => fBits_any x x W)
            rw [bits_self] at C1
            clear hx hkn hm' hat hat' hbl hbl' hS
            go_upto_region 24 with fail
            refine wp_region_held_drew (S := fun W => W.cell? ⟨wb, 6, none⟩ = some (.slice (some ⟨b, o, none⟩) lc.length c9) ∧ CelAt W b (o + k * 5) x ∧ CelAt W b' (o' + k * 5) x) (by kernel_rfl) ⟨CW.out, CA.out.on (Below.refl _ _).drew HL.out.1, CB.out.on (Below.refl _ _).drew HL.out.2.1⟩ (fun hHeld => ?_)
            refine take_s (i := 0) rfl (by kernel_rfl) (by kernel_rfl) (by kernel_rfl) (fun _ _ _ h => h) (Or.inl ⟨by rfl, by (intro w' hSw; go_simp; try with_reducible rfl)⟩) rfl (by assumption) ?_; simp only [lset]
            refine take_s (v := .slice (some ⟨b, o, none⟩) lc.length c9) (i := 1) rfl (by kernel_rfl) (by kernel_rfl) (by kernel_rfl) (fun _ _ _ h => h) (Or.inl ⟨by rfl, by (intro w' hSw; have c := hSw.1; go_simp)⟩) rfl (by assumption) ?_; simp only [lset]
            refine take_s (i := 2) rfl (by kernel_rfl) (by kernel_rfl) (by kernel_rfl) (fun _ _ _ h => h) (Or.inl ⟨by rfl, by (intro w' hSw; go_simp; try with_reducible rfl)⟩) rfl (by assumption) ?_; simp only [lset]
            refine take_s (v := .pointer (some ⟨b, o + k * 5, none⟩)) (i := 3) rfl (by kernel_rfl) (by kernel_rfl) (by kernel_rfl) (fun _ _ _ h => h) (Or.inl ⟨by rfl, by (intro w' hSw; go_simp; try with_reducible rfl)⟩) rfl (by assumption) ?_; simp only [lset]
            refine take_s (v := .agg (celX x)) (i := 4) rfl (by kernel_rfl) (by kernel_rfl) (by kernel_rfl) (fun _ _ _ h => h) (Or.inl ⟨by rfl, by (intro w' hSw; exact ldA_run hSw.2.1.ld rfl rfl)⟩) rfl (by assumption) ?_; simp only [lset]
            refine take_s (i := 5) rfl (by kernel_rfl) (by kernel_rfl) (by kernel_rfl) (fun _ _ _ h => h) (Or.inl ⟨by rfl, by (intro w' hSw; go_simp; try with_reducible rfl)⟩) rfl (by assumption) ?_; simp only [lset]
            refine take_s (i := 6) rfl (by kernel_rfl) (by kernel_rfl) (by kernel_rfl) (fun _ _ _ h => h) (Or.inl ⟨by rfl, by (intro w' hSw; go_simp; try with_reducible rfl)⟩) rfl (by assumption) ?_; simp only [lset]
            refine take_s (v := .pointer (some ⟨b', o' + k * 5, none⟩)) (i := 7) rfl (by kernel_rfl) (by kernel_rfl) (by kernel_rfl) (fun _ _ _ h => h) (Or.inl ⟨by rfl, by (intro w' hSw; go_simp; try with_reducible rfl)⟩) rfl (by assumption) ?_; simp only [lset]
            refine take_s (v := .agg (celX x)) (i := 8) rfl (by kernel_rfl) (by kernel_rfl) (by kernel_rfl) (fun _ _ _ h => h) (Or.inl ⟨by rfl, by (intro w' hSw; exact ldA_run hSw.2.2.ld rfl rfl)⟩) rfl (by assumption) ?_; simp only [lset]
            refine call_s (i := 9) (by kernel_rfl) rfl rfl (by rfl) (fun K hK => ?_)
            go_simp
            refine (C1.out _).mono ?_
            rintro e w2 ⟨rfl, b2⟩
            have B2 := Lib.hid (HW.out.trans (((Below.refl _ _).drew.trans b2).mono HW.out.size))
            have hHeld2 := And.intro ((World.cell?_of_block (b2.block _ HL.out.2.2)).trans CW.out) (And.intro (CA.out.on ((Below.refl _ _).drew.trans b2) HL.out.1) (CB.out.on ((Below.refl _ _).drew.trans b2) HL.out.2.1))
            refine hK.out _ _ hHeld2 ?_; clear hK K hHeld b2 C1 CA CB CW HL HW; simp only [lset]
            refine take_s (i := 10) rfl (by kernel_rfl) (by kernel_rfl) (by kernel_rfl) (fun _ _ _ h => h) (Or.inl ⟨by rfl, by (intro w' hSw; go_simp; try with_reducible rfl)⟩) rfl (by assumption) ?_; simp only [lset]
            refine wpAnyH_done (by kernel_rfl) ?_ _
            go_wp2_with fail
            go_roundw
            case rel => exact ⟨k + 1, by go_num, Lib.hid (by have := HKN.out; omega), B2⟩
            case measure => have := HKN.out; simp [intOf]; omega
          · skip
            have t1 : decide ((k : Int) < (lc.length : Int)) = false := decide_eq_false (by omega)
            have t2 : ¬ ((k : Int) < (lc.length : Int)) := by omega
            clear hkn
            go_wp2_with fail
            refine (C3.out _).mono ?_
            rintro e w3 ⟨rfl, b3⟩
            have B3 := Lib.hid (B17.out.trans ((HW.out.trans (b3.mono HW.out.size)).mono B17.out.size))
            go_wp2
            go_ret
            exact ⟨rfl, B3.out⟩
    · skip
      refine wp_val (v := .agg (celX v0)) (ldRow_run (run_loadVar_row _ (w.heap.size + 1) 57 57 (celX v0) (0, 0) _ N1.out Tryz.underlying57 rfl (by kernel_rfl)) rfl rfl) ?_
      refine hK.out _ _ trivial ?_; clear hK K; simp only [lset]
      refine call_s (i := 1) (by kernel_rfl) rfl rfl (by rfl) (fun K hK => ?_)
      go_simp
      refine (CD.out W2.drew).mono ?_
      rintro e W3 ⟨rfl, b3⟩
      refine hK.out _ _ trivial ?_; clear hK K CD; simp only [lset]
      have R0 := Lib.hid ((b3.block _ (show w.heap.size < W2.heap.size by have := HM.out; have := P2.out.lt; omega)).trans (show W2.drew.heap[w.heap.size]? = _ from N0.out))
      have R1 := Lib.hid ((b3.block _ (show w.heap.size + 1 < W2.heap.size by have := HM.out; have := P2.out.lt; omega)).trans (show W2.drew.heap[w.heap.size + 1]? = _ from N1.out))
      have B3 := Lib.hid ((Below.refl W2.heap.size W2).drew.trans b3)
      clear b3 N0 N1
      refine call_s (i := 3) (by kernel_rfl) rfl rfl (by rfl) (fun K hK => ?_)
      go_simp
      refine (CC.out W3).mono ?_
      rintro e W4 ⟨rfl, b4⟩
      refine hK.out _ _ trivial ?_; clear hK K CC; simp only [lset]
      have B4 := Lib.hid (B3.out.trans (b4.mono B3.out.size))
      have HW4 := Lib.hid B4.out.size
      refine call_s (i := 5) (by kernel_rfl) rfl rfl (by rfl) (fun K hK => ?_)
      go_simp
      refine (CA.out W4 B4.out).mono ?_
      rintro e W5 ⟨⟨sl, rfl, ho5⟩, b5⟩
      refine hK.out _ _ trivial ?_; clear hK K CA; simp only [lset]
      have B5 := Lib.hid (B4.out.trans (b5.mono B4.out.size))
      have r0 := (b5.block _ (Nat.lt_of_lt_of_le (Array.getElem?_eq_some_iff.1 R0.out).1 b4.size)).trans ((b4.block _ (Array.getElem?_eq_some_iff.1 R0.out).1).trans R0.out)
      have r1 := (b5.block _ (Nat.lt_of_lt_of_le (Array.getElem?_eq_some_iff.1 R1.out).1 b4.size)).trans ((b4.block _ (Array.getElem?_eq_some_iff.1 R1.out).1).trans R1.out)
      clear b4 b5 B3 B4 R0 R1
      refine step_n (i := 6) (by kernel_rfl) rfl rfl (by rfl) (fun K hK => ?_)
      refine wp_store_row 63 _ _ rfl w.heap.size _ rfl rfl 63 _ r0 (by kernel_rfl) rfl (by kernel_rfl) ?_
      refine hK.out undef _ trivial ?_; clear hK K
      have q1 := (setRow_other W5 w.heap.size (w.heap.size + 1) (celD ke ve se) (by omega)).trans r1
      refine step_n (i := 7) (by kernel_rfl) rfl rfl (by rfl) (fun K hK => ?_)
      refine wp_store_row 57 _ _ rfl (w.heap.size + 1) _ rfl rfl 57 _ q1 (by kernel_rfl) rfl (by kernel_rfl) ?_
      refine hK.out undef _ trivial ?_; clear hK K
      refine take_s (i := 8) rfl (by kernel_rfl) (by kernel_rfl) (by kernel_rfl) (fun _ _ _ h => h) (Or.inl ⟨by rfl, by (intro w' hSw; go_simp; try with_reducible rfl)⟩) rfl (by assumption) ?_; simp only [lset]
      refine wpAnyH_done (by kernel_rfl) ?_ _
      clear hHeld
      have hmN := HM.out
      have e0 : ((W5.setRow w.heap.size (celD ke ve se)).setRow (w.heap.size + 1) (celX v1)).heap[w.heap.size]? = some (.cells (celD ke ve se) 63 (0, 0)) := (setRow_other _ _ _ _ (by omega)).trans (setRow_heap _ _ _ _ _ _ r0)
      have e1 : ((W5.setRow w.heap.size (celD ke ve se)).setRow (w.heap.size + 1) (celX v1)).heap[w.heap.size + 1]? = some (.cells (celX v1) 57 (0, 0)) := setRow_heap _ _ _ _ _ _ q1
      have m6 := ((M2.out.on B5.out).ey (ey_row W5 w.heap.size (celD ke ve se)) (by omega)).ey (ey_row _ (w.heap.size + 1) (celX v1)) (by omega)
      have p6 := ((P2.out.on B5.out).kp (ey_row W5 w.heap.size (celD ke ve se)) (by omega) (fun c fz e => by rw [r0] at e; cases e)).kp (ey_row _ (w.heap.size + 1) (celX v1)) (by omega) (fun c fz e => by rw [q1] at e; cases e)
      have b6 : Below w.heap.size w ((W5.setRow w.heap.size (celD ke ve se)).setRow (w.heap.size + 1) (celX v1)) := below_setRowK (below_setRowK (B2.out.trans (B5.out.mono B2.out.size)) (Nat.le_refl _) _) (Nat.le_succ _) _
      obtain ⟨lc, hlc⟩ : ∃ lc, l.map clnV = lc := ⟨_, rfl⟩
      have hll : l.length = lc.length := by rw [← hlc, List.length_map]
      have o6 : ((W5.setRow w.heap.size (celD ke ve se)).setRow (w.heap.size + 1) (celX v1)).ownsRow (w.heap.size + 2) 57 5 sl lc.length (flatV lc) := by
        have h4 : w.heap.size + 2 ≤ W4.heap.size := Nat.le_trans (show w.heap.size + 2 ≤ W2.heap.size by have := P2.out.lt; omega) HW4.out
        rw [hlc, hll] at ho5
        refine ⟨ho5.1, ?_⟩
        rcases ho5.2 with hn | ⟨g, cap, cur, e, hbg, hg, rest⟩
        · exact .inl hn
        · exact .inr ⟨g, cap, cur, e, by omega, (setRow_other _ _ _ _ (by omega)).trans ((setRow_other _ _ _ _ (by omega)).trans hg), rest⟩
      obtain ⟨W6, hW6⟩ : ∃ W6, (W5.setRow w.heap.size (celD ke ve se)).setRow (w.heap.size + 1) (celX v1) = W6 := ⟨_, rfl⟩
      rw [hW6] at e0 e1 m6 p6 b6 o6 ⊢
      have HSZ2 := Lib.hid (show lc.length ≤ 4194304 ∧ ∀ v ∈ lc, v.vs.size ≤ maxLen from ⟨by rw [← hll]; exact HSZ.out.1, by
        intro x hx
        rw [← hlc, List.mem_map] at hx
        obtain ⟨y, hy, rfl⟩ := hx
        exact clnV_size (HSZ.out.2 y hy)⟩)
      obtain ⟨A6, c6, rfl, -⟩ := vals_own o6 HSZ2.out.1 HSZ2.out.2
      have O6 := Lib.hid o6
      have E0 := Lib.hid e0
      have E1 := Lib.hid e1
      have M6 := Lib.hid m6
      have P6 := Lib.hid p6
      have B6 := Lib.hid b6
      have C6 := Lib.hid (alloc_m (y := obB) m6 rfl (by show m ≠ hb; omega) p6 (by decide) mayB1)
      clear hmN e0 e1 m6 p6 b6 o6 hW6 hlc hll ho5 r0 r1 q1 M2 P2 B2 B5 HW4
      go_wp2_with fail
      refine C6.out.mono ?_
      rintro e W7 ⟨t, rfl, m7, p7, t7, -, k7⟩
      have hmN := HM.out
      have e7 := k7.oth _ _ E0.out (fun e => by have := Option.some.inj e; show False; have : w.heap.size = hb := this; omega) (by intro c fz e; cases e)
      have f7 := k7.oth _ _ E1.out (fun e => by have := Option.some.inj e; have : w.heap.size + 1 = hb := this; omega) (by intro c fz e; cases e)
      have b7 : Below w.heap.size w W7 := B6.out.trans (k7.b.mono (show w.heap.size ≤ hb by omega))
      have o7 : W7.ownsRow (w.heap.size + 2) 57 5 (.slice A6 lc.length c6) lc.length (flatV lc) := by
        refine ⟨O6.out.1, ?_⟩
        rcases O6.out.2 with hn | ⟨g, cap, cur, e, hbg, hg, rest⟩
        · exact .inl hn
        · exact .inr ⟨g, cap, cur, e, hbg, (k7.oth _ _ hg (fun e => HpNe P6.out hg (by decide) (Option.some.inj e)) (by intro c fz e; cases e)).trans rfl, rest⟩
      go_upto_region 7 with fail
      have bA := below_a2 W7 (.cells zD 63) (.cells #[.int .i64 5, .bool false, .float .f64 0, .string ⟨#[]⟩, .int .i64 0] 57)
      have kf : ((W7.alloc (.cells zD 63)).alloc (.cells #[.int .i64 5, .bool false, .float .f64 0, .string ⟨#[]⟩, .int .i64 0] 57)).heap[W7.heap.size + 1]? = some (.cells #[.int .i64 5, .bool false, .float .f64 0, .string ⟨#[]⟩, .int .i64 0] 57 (0, 0)) := by
        have := new1 (W7.alloc (.cells zD 63)) #[.int .i64 5, .bool false, .float .f64 0, .string ⟨#[]⟩, .int .i64 0] 57
        simpa using this
      obtain ⟨W8, hW8⟩ : ∃ W8, (W7.alloc (.cells zD 63)).alloc (.cells #[.int .i64 5, .bool false, .float .f64 0, .string ⟨#[]⟩, .int .i64 0] 57) = W8 := ⟨_, rfl⟩
      rw [hW8] at bA kf ⊢
      have E8 := Lib.hid ((bA.block _ (Array.getElem?_eq_some_iff.1 e7).1).trans e7)
      have F8 := Lib.hid ((bA.block _ (Array.getElem?_eq_some_iff.1 f7).1).trans f7)
      have B8 := Lib.hid (b7.trans (bA.mono b7.size))
      have S8 := Lib.hid (show W7.heap.size ≤ W8.heap.size from bA.size)
      have MB8 := Lib.hid (show MB W8 m t (mx0 100 100 100 10 hb dr) 100 1 from ⟨m7.on bA, rfl, p7.on bA, t7.on bA, ⟨rfl, rfl, rfl, by show (1 : Int) ≤ 100; decide, by show (100 : Int) ≤ 1000; decide⟩⟩)
      have KF := Lib.hid (show W8.heap[W7.heap.size + 1]? = some (.cells (celX (vObj 0)) 57 (0, 0)) from kf)
      have O8 := Lib.hid (show W8.ownsRow (w.heap.size + 2) 57 5 (.slice A6 lc.length c6) lc.length (flatV lc) by
        refine ⟨o7.1, ?_⟩
        rcases o7.2 with hn | ⟨g, cap, cur, e, hbg, hg, rest⟩
        · exact .inl hn
        · exact .inr ⟨g, cap, cur, e, hbg, (bA.block _ (Array.getElem?_eq_some_iff.1 hg).1).trans hg, rest⟩)
      obtain ⟨A7, c7, hA7, v8⟩ := vals_own O8.out HSZ2.out.1 HSZ2.out.2
      cases hA7
      have V8 := Lib.hid v8
      have C8 := Lib.hid (call_b0 (v0 := v1) MB8.out rfl v8)
      clear C6 hmN e7 f7 b7 o7 bA kf m7 p7 t7 k7 v8 hW8 E0 E1 M6 P6 B6 O6
      go_wp2_with (first | refine ldP (k := 43) (run_loadVar_row _ (W7.heap.size + 1) 57 57 _ (0, 0) _ KF.out Tryz.underlying57 rfl (by kernel_rfl)) rfl (by kernel_rfl) rfl rfl ?_ | refine ldP (k := 44) (run_loadVar_row _ (w.heap.size + 1) 57 57 _ (0, 0) _ F8.out Tryz.underlying57 rfl (by kernel_rfl)) rfl (by kernel_rfl) rfl rfl ?_)
      refine C8.out.mono ?_
      rintro e W9 ⟨k9, v9, s9, x9, rfl, ⟨rfl, rfl, rfl, rfl⟩, m9, z9⟩
      have hmN := HM.out
      have hz9 : ∀ (j : Nat) (c : Array Value) (ty : TypeId) (fz : Nat × Nat), W8.heap[j]? = some (.cells c ty fz) → ty ≠ 91 → W9.heap[j]? = W8.heap[j]? := fun j c ty fz hj ht => z9.block _ (Array.getElem?_eq_some_iff.1 hj).1 (fun (e : j = m) => by rw [e, show W8.heap[m]? = _ from MB8.out.M] at hj; cases hj; exact ht rfl)
      have E9 := Lib.hid ((hz9 _ _ _ _ E8.out (by decide)).trans E8.out)
      have F9 := Lib.hid ((hz9 _ _ _ _ F8.out (by decide)).trans F8.out)
      have KF9 := Lib.hid ((hz9 _ _ _ _ KF.out (by decide)).trans KF.out)
      have B9 := Lib.hid (B8.out.trans (z9.below B8.out.size (fun i (e : i = m) => by omega)))
      have p9 := MB8.out.P.ez z9 (fun j c ty fz hj ht (e : j = m) => by rw [e, show W8.heap[m]? = _ from MB8.out.M] at hj; cases hj; rcases ht with h | h <;> exact absurd h (by decide))
      have t9 := MB8.out.T.ez z9 (fun (e : t = m) => by obtain ⟨q, ht⟩ := MB8.out.T; rw [e, show W8.heap[m]? = _ from MB8.out.M] at ht; cases ht)
      have MB9 := Lib.hid (show MB W9 m t _ 100 1 from ⟨m9, rfl, p9, t9, ⟨rfl, rfl, rfl, by show (1 : Int) ≤ 100 - 1; decide, by show (100 : Int) - 1 ≤ 1000; decide⟩⟩)
      have o9 : W9.ownsRow (w.heap.size + 2) 57 5 (.slice A6 lc.length c6) lc.length (flatV lc) := by
        refine ⟨O8.out.1, ?_⟩
        rcases O8.out.2 with hn | ⟨g, cap, cur, e, hbg, hg, rest⟩
        · exact .inl hn
        · exact .inr ⟨g, cap, cur, e, hbg, (hz9 _ _ _ _ hg (by decide)).trans hg, rest⟩
      have O9 := Lib.hid o9
      have S9 := Lib.hid (show W7.heap.size + 1 < W9.heap.size from (Array.getElem?_eq_some_iff.1 KF9.out).1)
      clear C8 hmN hz9 m9 z9 p9 t9 o9 E8 F8 KF B8 MB8 V8 O8 S8
      go_upto_region 10 with fail
      have bB := below_a2 W9 (.cells (celE 0 valU (.slice none 0 0)) 61) (.cells #[.int .i64 0] 3)
      have kw : ((W9.alloc (.cells (celE 0 valU (.slice none 0 0)) 61)).alloc (.cells #[.int .i64 0] 3)).heap[W9.heap.size]? = some (.cells (celE 0 valU (.slice none 0 0)) 61 (0, 0)) := ((below_a1 _ _).block _ (by simp)).trans (new1 W9 _ _)
      have km : ((W9.alloc (.cells (celE 0 valU (.slice none 0 0)) 61)).alloc (.cells #[.int .i64 0] 3)).heap[W9.heap.size + 1]? = some (.cells #[.int .i64 0] 3 (0, 0)) := by
        have := new1 (W9.alloc (.cells (celE 0 valU (.slice none 0 0)) 61)) #[.int .i64 0] 3
        simpa using this
      obtain ⟨W10, hW10⟩ : ∃ W10, (W9.alloc (.cells (celE 0 valU (.slice none 0 0)) 61)).alloc (.cells #[.int .i64 0] 3) = W10 := ⟨_, rfl⟩
      have hg10 : (W9.alloc (.cells #[.int .i64 0, .int .i64 0, .bool false, .float .f64 0, .string ⟨#[]⟩, .int .i64 0, .slice none 0 0, .bool false] 61)).alloc (.cells #[.int .i64 0] 3) = W10 := hW10
      rw [hg10]
      rw [hW10] at bB kw km
      have s9 := S9.out
      have d9 : W9.heap.size + 1 < W10.heap.size := (Array.getElem?_eq_some_iff.1 km).1
      have E10 := (bB.block _ (Array.getElem?_eq_some_iff.1 E9.out).1).trans E9.out
      have F10 := (bB.block _ (Array.getElem?_eq_some_iff.1 F9.out).1).trans F9.out
      have KF10 := (bB.block _ (Array.getElem?_eq_some_iff.1 KF9.out).1).trans KF9.out
      have MB10 := MB9.out.on bB
      have C10 := Lib.hid (setBody_m (F := .func 29) (caps := #[.pointer (some ⟨W9.heap.size, 0, none⟩), .pointer (some ⟨W9.heap.size + 1, 0, none⟩), .pointer (some ⟨w.heap.size, 0, none⟩)]) MB10.M rfl)
      obtain ⟨wb, hwb⟩ : ∃ wb, W9.heap.size = wb := ⟨_, rfl⟩
      have b10 : Below w.heap.size w W10 := B9.out.trans (bB.mono B9.out.size)
      have hml : m < wb := by rw [← hwb]; exact MB9.out.M.lt
      rw [hwb] at kw km C10 d9 s9
      rw [hwb]
      have X10 := Lib.hid (And.intro E10 (And.intro F10 (And.intro KF10 (And.intro MB10 (And.intro kw (And.intro km (And.intro b10 (And.intro hml (And.intro s9 d9)))))))))
      have O10 := Lib.hid (show W10.ownsRow (w.heap.size + 2) 57 5 (.slice A6 lc.length c6) lc.length (flatV lc) by
        refine ⟨O9.out.1, ?_⟩
        rcases O9.out.2 with hn | ⟨g, cap, cur, e, hbg, hg, rest⟩
        · exact .inl hn
        · exact .inr ⟨g, cap, cur, e, hbg, (bB.block _ (Array.getElem?_eq_some_iff.1 hg).1).trans hg, rest⟩)
      clear E10 F10 KF10 MB10 kw km b10 hml s9 d9 bB hW10 hg10 hwb E9 F9 KF9 B9 MB9 O9 S9
      go_wp2_with fail
      refine C10.out.mono ?_
      rintro e W11 ⟨rfl, m11, y11⟩
      obtain ⟨e10, f10, kf10, mb10, kw, km, b10, hml, s9, d9⟩ := X10.out
      have hy : ∀ (j : Nat) (c : Array Value) (ty : TypeId) (fz : Nat × Nat), W10.heap[j]? = some (.cells c ty fz) → ty ≠ 91 → W11.heap[j]? = W10.heap[j]? := fun j c ty fz hj ht => y11.block _ (Array.getElem?_eq_some_iff.1 hj).1 (fun e => by rw [e, show W10.heap[m]? = _ from mb10.M] at hj; cases hj; exact ht rfl)
      have E11 := Lib.hid ((hy _ _ _ _ e10 (by decide)).trans e10)
      have F11 := Lib.hid ((hy _ _ _ _ f10 (by decide)).trans f10)
      have KF11 := Lib.hid ((hy _ _ _ _ kf10 (by decide)).trans kf10)
      have kw11 := (hy _ _ _ _ kw (by decide)).trans kw
      have km11 := (hy _ _ _ _ km (by decide)).trans km
      have B11 := Lib.hid (b10.trans (y11.below b10.size (by have := HM.out; omega)))
      have t11 : HobE W11 t obB (.slice none 0 0) (.slice none 0 0) := by
        obtain ⟨q, ht⟩ := mb10.T
        exact ⟨q, (hy _ _ _ _ ht (by decide)).trans ht⟩
      have MB11 := Lib.hid (show MB W11 m t _ 100 1 from ⟨m11, rfl, mb10.P.mc mb10.M y11 (by show m ≠ hb; have := HM.out; omega), t11, ⟨rfl, rfl, rfl, by show (1 : Int) ≤ 100 - 1; decide, by show (100 : Int) - 1 ≤ 1000; decide⟩⟩)
      have BB11 := Lib.hid (show BB W11 m wb (wb + 1) w.heap.size ke ve se from ⟨⟨_, kw11, rfl⟩, km11, E11.out⟩)
      have O11 := Lib.hid (show W11.ownsRow (w.heap.size + 2) 57 5 (.slice A6 lc.length c6) lc.length (flatV lc) by
        refine ⟨O10.out.1, ?_⟩
        rcases O10.out.2 with hn | ⟨g, cap, cur, e, hbg, hg, rest⟩
        · exact .inl hn
        · exact .inr ⟨g, cap, cur, e, hbg, (hy _ _ _ _ hg (by decide)).trans hg, rest⟩)
      obtain ⟨A11, c11, hA11, v11⟩ := vals_own O11.out HSZ2.out.1 HSZ2.out.2
      cases hA11
      have C11 := Lib.hid (call_b1 (v0 := v1) MB11.out rfl BB11.out HKE.out v11)
      have HWB := Lib.hid (And.intro hml (show wb + 1 < W11.heap.size from Nat.lt_of_lt_of_le d9 y11.size))
      clear C10 e10 f10 kf10 mb10 kw km b10 hml s9 d9 hy kw11 km11 t11 v11 m11 y11 X10 O10
      go_wp2_with (first | refine ldP (k := 54) (run_loadVar_row _ (W7.heap.size + 1) 57 57 _ (0, 0) _ KF11.out Tryz.underlying57 rfl (by kernel_rfl)) rfl (by kernel_rfl) rfl rfl ?_ | refine ldP (k := 55) (run_loadVar_row _ (w.heap.size + 1) 57 57 _ (0, 0) _ F11.out Tryz.underlying57 rfl (by kernel_rfl)) rfl (by kernel_rfl) rfl rfl ?_)
      refine C11.out.mono ?_
      rintro e W12 ⟨k12, v12, s12, x12, rfl, ⟨⟨rfl, rfl, rfl⟩, km12, sl, kw12, rb12⟩, m12, z12⟩
      have hN := HM.out
      have hB := HWB.out
      have b12 : Below w.heap.size w W12 := B11.out.trans (z12.below B11.out.size (fun i hi => by rcases hi with h | h | h <;> omega))
      have hz12 : ∀ (j : Nat), j < W11.heap.size → j ≠ m → j ≠ wb → j ≠ wb + 1 → W12.heap[j]? = W11.heap[j]? := fun j hj h1 h2 h3 => z12.block _ hj (fun hi => by (rcases hi with h | h | h) <;> omega)
      have e12 := (hz12 _ (by omega) (by omega) (by omega) (by omega)).trans E11.out
      have f12 := (hz12 _ (by omega) (by omega) (by omega) (by omega)).trans F11.out
      have s12 : W11.heap.size ≤ W12.heap.size := z12.size
      have o12 : W12.ownsRow (w.heap.size + 2) 57 5 (.slice A6 lc.length c6) lc.length (flatV lc) := by
        refine ⟨O11.out.1, ?_⟩
        rcases O11.out.2 with hn | ⟨g, cap, cur, e, hbg, hg, rest⟩
        · exact .inl hn
        · refine .inr ⟨g, cap, cur, e, hbg, (hz12 _ (Array.getElem?_eq_some_iff.1 hg).1 ?_ ?_ ?_).trans hg, rest⟩
          · rintro rfl
            have := MB11.out.M
            rw [show W11.heap[g]? = _ from this] at hg
            cases hg
          · rintro rfl
            obtain ⟨q, hq, _⟩ := BB11.out.w
            rw [hq] at hg
            cases hg
          · rintro rfl
            rw [BB11.out.m0] at hg
            cases hg
      have X12 := Lib.hid (And.intro e12 (And.intro f12 (And.intro o12 (And.intro b12 (And.intro km12 (And.intro kw12 (And.intro rb12 (show wb + 1 < W12.heap.size by omega))))))))
      clear hN hB b12 hz12 e12 f12 s12 o12 km12 kw12 rb12 C11 E11 F11 KF11 B11 MB11 BB11 O11 m12 z12
      go_upto_region 12 with fail
      obtain ⟨e12, f12, o12, b12, km12, kw12, rb12, hB12⟩ := X12.out
      obtain ⟨A9, c9, rfl, v9⟩ := vals_own rb12 HSZ2.out.1 HSZ2.out.2
      obtain ⟨A7, c7, hA7, v7⟩ := vals_own o12 HSZ2.out.1 HSZ2.out.2
      cases hA7
      have bC := below_a1 W12 (.cells (celD (outK ke) (outV ke ve) ⟨#[]⟩) 63)
      have kr : (W12.alloc (.cells (celD (outK ke) (outV ke ve) ⟨#[]⟩) 63)).heap[W12.heap.size]? = some (.cells (celD (outK ke) (outV ke ve) ⟨#[]⟩) 63 (0, 0)) := new1 W12 _ _
      obtain ⟨W13, hW13⟩ : ∃ W13, W12.alloc (.cells (celD (outK ke) (outV ke ve) ⟨#[]⟩) 63) = W13 := ⟨_, rfl⟩
      rw [hW13] at bC kr ⊢
      have lt12 := (Array.getElem?_eq_some_iff.1 f12).1
      have lt13 := (Array.getElem?_eq_some_iff.1 kr).1
      have E13 := Lib.hid ((bC.block _ (by omega)).trans e12)
      have F13 := Lib.hid ((bC.block _ lt12).trans f12)
      have KM13 := Lib.hid ((bC.block _ hB12).trans km12)
      have KW13 := Lib.hid ((bC.block _ (by omega)).trans kw12)
      have V9 := Lib.hid (v9.on bC)
      have V7 := Lib.hid (v7.on bC)
      have B13 := Lib.hid (b12.trans (bC.mono b12.size))
      have KR := Lib.hid kr
      have S13 := Lib.hid (And.intro lt12 (And.intro hB12 (And.intro lt13 b12.size)))
      clear e12 f12 o12 b12 km12 kw12 rb12 hB12 v9 v7 bC kr hW13 lt12 lt13 X12
      go_upto_region 13 with (refine ldP (k := 58) (run_loadVar_row _ w.heap.size 63 63 _ (0, 0) _ E13.out Tryz.underlying63 rfl (by kernel_rfl)) rfl (by kernel_rfl) rfl rfl ?_)
      have bD := below_a1 W13 (.cells (celD ke ve se) 63)
      have e14 := (bD.block _ (show w.heap.size < W13.heap.size by have := S13.out; omega)).trans E13.out
      have c14 : (W13.alloc (.cells (celD ke ve se) 63)).cell? ⟨w.heap.size, 0, none⟩ = some (.int .i64 ke) := (cell_of_row _ _ 0 _ _ _ e14).trans rfl
      have E14 := Lib.hid e14
      clear bD e14
      have hcase : ke = 0 ∨ ke = 1 ∨ ke = 2 ∨ ke = 3 ∨ ke = 4 := by have := HKE.out; omega
      rcases hcase with rfl | rfl | rfl | rfl | rfl
      · skip
        have hse := HEL.out (by omega)
        subst hse
        clear HEL HKE
        go_upto_region 19 with fail
        clear c14 E14
        have hg15 : W13.alloc (.cells (celD 0 ve ⟨#[]⟩) 63) = W13.alloc (.cells (celD (outK 0) (outV 0 ve) ⟨#[]⟩) 63) := rfl
        rw [hg15]
        clear hg15
        obtain ⟨rk, hrk⟩ : ∃ rk, outK 0 = rk := ⟨_, rfl⟩
        obtain ⟨rv, hrv⟩ : ∃ rv, outV 0 ve = rv := ⟨_, rfl⟩
        rw [hrk, hrv] at KR ⊢
        clear hrk hrv
        have bE := below_a1 W13 (.cells (celD rk rv ⟨#[]⟩) 63)
        have ks := new1 W13 (celD rk rv ⟨#[]⟩) 63
        obtain ⟨W15, hW15⟩ : ∃ W15, W13.alloc (.cells (celD rk rv ⟨#[]⟩) 63) = W15 := ⟨_, rfl⟩
        rw [hW15] at bE ks ⊢
        have hS := S13.out
        have kmc : W15.cell? ⟨wb + 1, 0, none⟩ = some (.int .i64 1) := (cell_of_row _ _ 0 _ _ _ ((bE.block _ (by omega)).trans KM13.out)).trans rfl
        have kw15 := (bE.block _ (show wb < W13.heap.size by omega)).trans KW13.out
        have kfc : W15.cell? ⟨wb, 0, none⟩ = some (.int .i64 0) := (cell_of_row _ _ 0 _ _ _ kw15).trans rfl
        have kac : W15.cell? ⟨wb, 6, none⟩ = some (.slice A9 lc.length c9) := (cell_of_row _ _ 6 _ _ _ kw15).trans rfl
        have KW := Lib.hid kw15
        have KF := Lib.hid ((bE.block _ (show w.heap.size + 1 < W13.heap.size by omega)).trans F13.out)
        have KR15 := Lib.hid ((bE.block _ (show W12.heap.size < W13.heap.size by omega)).trans KR.out)
        have KS := Lib.hid ks
        have V9e := Lib.hid (V9.out.on (bE.mono (show W12.heap.size ≤ W13.heap.size by omega)))
        have V7e := Lib.hid (V7.out.on (bE.mono (show W12.heap.size ≤ W13.heap.size by omega)))
        have B15 := Lib.hid (B13.out.trans (bE.mono B13.out.size))
        have S15 := Lib.hid (show wb + 1 < W15.heap.size ∧ w.heap.size ≤ W15.heap.size ∧ w.heap.size + 1 < W15.heap.size ∧ W12.heap.size < W15.heap.size ∧ W13.heap.size < W15.heap.size from by
          have h1 := bE.size
          have h2 := (Array.getElem?_eq_some_iff.1 ks).1
          exact ⟨by omega, by omega, by omega, by omega, h2⟩)
        have C1 := Lib.hid (fun W => fBits_any v1 v1 W)
        rw [bits_self] at C1
        have C2 := Lib.hid (fun W => same_self rk rv ⟨#[]⟩ W)
        have C3 := Lib.hid (fun W => awake_any W)
        clear bE ks hS kw15 hW15 E13 F13 KM13 KW13 V9 V7 B13 KR S13
        go_wp2_with (first | refine ldP (k := 80) (ldSegW KW.out) rfl (by kernel_rfl) rfl rfl ?_ | refine ldP (k := 81) (run_loadVar_row _ (w.heap.size + 1) 57 57 _ (0, 0) _ KF.out Tryz.underlying57 rfl (by kernel_rfl)) rfl (by kernel_rfl) rfl rfl ?_)
        refine (C1.out _).mono ?_
        rintro e W16 ⟨rfl, b16⟩
        have hS := S15.out
        have kw16 := (b16.block _ (show wb < W15.heap.size by omega)).trans KW.out
        have kad : W16.cell? ⟨wb, 6, none⟩ = some (.slice A9 lc.length c9) := (cell_of_row _ _ 6 _ _ _ kw16).trans rfl
        have KW6 := Lib.hid kw16
        have KR6 := Lib.hid ((b16.block _ (show W12.heap.size < W15.heap.size by omega)).trans KR15.out)
        have KS6 := Lib.hid ((b16.block _ (show W13.heap.size < W15.heap.size by omega)).trans KS.out)
        have B16 := Lib.hid (B15.out.trans (b16.mono B15.out.size))
        have V9f := Lib.hid (V9e.out.on (b16.mono (by omega)))
        have V7f := Lib.hid (V7e.out.on (b16.mono (by omega)))
        have S16 := Lib.hid (show wb < W16.heap.size by have := b16.size; omega)
        have D16 := Lib.hid (show W12.heap.size < W16.heap.size by have := b16.size; omega)
        clear b16 hS kw16 kmc kfc kac KW KF KR15 KS B15 V9e V7e S15 C1
        go_wp2_with (first | refine ldP (k := 94) (run_loadVar_row _ W12.heap.size 63 63 _ (0, 0) _ KR6.out Tryz.underlying63 rfl (by kernel_rfl)) rfl (by kernel_rfl) rfl rfl ?_ | refine ldP (k := 95) (run_loadVar_row _ W13.heap.size 63 63 _ (0, 0) _ KS6.out Tryz.underlying63 rfl (by kernel_rfl)) rfl (by kernel_rfl) rfl rfl ?_)
        refine (C2.out _).mono ?_
        rintro e W17 ⟨rfl, b17⟩
        have KW7 := Lib.hid ((b17.block _ S16.out).trans KW6.out)
        have B17 := Lib.hid (B16.out.trans (b17.mono B16.out.size))
        have V9g := Lib.hid ((V9f.out.on (b17.mono (Nat.le_of_lt D16.out))))
        have V7g := Lib.hid ((V7f.out.on (b17.mono (Nat.le_of_lt D16.out))))
        have S17 := Lib.hid (show wb < W17.heap.size ∧ W12.heap.size ≤ W17.heap.size by have := b17.size; have := S16.out; have := D16.out; omega)
        clear b17 kad KR6 KS6 B16 V9f V7f S16 D16 KW6 C2
        go_wp2_with fail
        go_loopw [16] (fun v16 wr => ∃ k : Nat, v16 = .int .i64 (k : Nat) ∧ Hid (k ≤ lc.length) ∧ Hid (Below W17.heap.size W17 wr)) (fun v16 _ => ((lc.length : Int) - intOf v16).toNat)
        case atStart => exact ⟨0, rfl, Lib.hid (Nat.zero_le _), Lib.hid (Below.refl _ _)⟩
        case round =>
          obtain ⟨k, rfl, HK, HW⟩ := hrel
          by_cases hkn : k < lc.length
          · skip
            have hm' := HSZ2.out.1
            have t1 : decide ((k : Int) < (lc.length : Int)) = true := decide_eq_true (by omega)
            have t2 : (k : Int) < (lc.length : Int) := by omega
            have t3 : (0 : Int) ≤ (k : Int) := by omega
            have k1 : IntKind.i64.wrap ((k : Int) + 1) = ((k + 1 : Nat) : Int) := by rw [IntWalk.i64_in _ (by omega)]; omega
            obtain ⟨x, hx⟩ : ∃ x, lc[k]? = some x := ⟨_, List.getElem?_eq_getElem hkn⟩
            obtain ⟨b, o, hA, hbl, hat⟩ := V9g.out.at' (by rintro rfl; simp at hkn)
            obtain ⟨b', o', hA', hbl', hat'⟩ := V7g.out.at' (by rintro rfl; simp at hkn)
            subst hA
            subst hA'
            have hS := S17.out
            have CA := Lib.hid ((hat k x hx).on HW.out (by omega))
            have CB := Lib.hid ((hat' k x hx).on HW.out (by omega))
            have CW := Lib.hid ((cell_of_row _ _ 6 _ _ _ ((HW.out.block _ hS.1).trans KW7.out)).trans (show (celE 0 v1 (.slice (some ⟨b, o, none⟩) lc.length c9))[6]? = some (.slice (some ⟨b, o, none⟩) lc.length c9) from rfl))
            have HL := Lib.hid (show b < wr.heap.size ∧ b' < wr.heap.size ∧ wb < wr.heap.size by have := HW.out.size; omega)
            have HKN := Lib.hid hkn
            have C1 := Lib.hid (fun W => fBits_any x x W)
            rw [bits_self] at C1
            clear hx hkn hm' hat hat' hbl hbl' hS
            go_upto_region 24 with fail
            refine wp_region_held_drew (S := fun W => W.cell? ⟨wb, 6, none⟩ = some (.slice (some ⟨b, o, none⟩) lc.length c9) ∧ CelAt W b (o + k * 5) x ∧ CelAt W b' (o' + k * 5) x) (by kernel_rfl) ⟨CW.out, CA.out.on (Below.refl _ _).drew HL.out.1, CB.out.on (Below.refl _ _).drew HL.out.2.1⟩ (fun hHeld => ?_)
            refine take_s (i := 0) rfl (by kernel_rfl) (by kernel_rfl) (by kernel_rfl) (fun _ _ _ h => h) (Or.inl ⟨by rfl, by (intro w' hSw; go_simp; try with_reducible rfl)⟩) rfl (by assumption) ?_; simp only [lset]
            refine take_s (v := .slice (some ⟨b, o, none⟩) lc.length c9) (i := 1) rfl (by kernel_rfl) (by kernel_rfl) (by kernel_rfl) (fun _ _ _ h => h) (Or.inl ⟨by rfl, by (intro w' hSw; have c := hSw.1; go_simp)⟩) rfl (by assumption) ?_; simp only [lset]
            refine take_s (i := 2) rfl (by kernel_rfl) (by kernel_rfl) (by kernel_rfl) (fun _ _ _ h => h) (Or.inl ⟨by rfl, by (intro w' hSw; go_simp; try with_reducible rfl)⟩) rfl (by assumption) ?_; simp only [lset]
            refine take_s (v := .pointer (some ⟨b, o + k * 5, none⟩)) (i := 3) rfl (by kernel_rfl) (by kernel_rfl) (by kernel_rfl) (fun _ _ _ h => h) (Or.inl ⟨by rfl, by (intro w' hSw; go_simp; try with_reducible rfl)⟩) rfl (by assumption) ?_; simp only [lset]
            refine take_s (v := .agg (celX x)) (i := 4) rfl (by kernel_rfl) (by kernel_rfl) (by kernel_rfl) (fun _ _ _ h => h) (Or.inl ⟨by rfl, by (intro w' hSw; exact ldA_run hSw.2.1.ld rfl rfl)⟩) rfl (by assumption) ?_; simp only [lset]
            refine take_s (i := 5) rfl (by kernel_rfl) (by kernel_rfl) (by kernel_rfl) (fun _ _ _ h => h) (Or.inl ⟨by rfl, by (intro w' hSw; go_simp; try with_reducible rfl)⟩) rfl (by assumption) ?_; simp only [lset]
            refine take_s (i := 6) rfl (by kernel_rfl) (by kernel_rfl) (by kernel_rfl) (fun _ _ _ h => h) (Or.inl ⟨by rfl, by (intro w' hSw; go_simp; try with_reducible rfl)⟩) rfl (by assumption) ?_; simp only [lset]
            refine take_s (v := .pointer (some ⟨b', o' + k * 5, none⟩)) (i := 7) rfl (by kernel_rfl) (by kernel_rfl) (by kernel_rfl) (fun _ _ _ h => h) (Or.inl ⟨by rfl, by (intro w' hSw; go_simp; try with_reducible rfl)⟩) rfl (by assumption) ?_; simp only [lset]
            refine take_s (v := .agg (celX x)) (i := 8) rfl (by kernel_rfl) (by kernel_rfl) (by kernel_rfl) (fun _ _ _ h => h) (Or.inl ⟨by rfl, by (intro w' hSw; exact ldA_run hSw.2.2.ld rfl rfl)⟩) rfl (by assumption) ?_; simp only [lset]
            refine call_s (i := 9) (by kernel_rfl) rfl rfl (by rfl) (fun K hK => ?_)
            go_simp
            refine (C1.out _).mono ?_
            rintro e w2 ⟨rfl, b2⟩
            have B2 := Lib.hid (HW.out.trans (((Below.refl _ _).drew.trans b2).mono HW.out.size))
            have hHeld2 := And.intro ((World.cell?_of_block (b2.block _ HL.out.2.2)).trans CW.out) (And.intro (CA.out.on ((Below.refl _ _).drew.trans b2) HL.out.1) (CB.out.on ((Below.refl _ _).drew.trans b2) HL.out.2.1))
            refine hK.out _ _ hHeld2 ?_; clear hK K hHeld b2 C1 CA CB CW HL HW; simp only [lset]
            refine take_s (i := 10) rfl (by kernel_rfl) (by kernel_rfl) (by kernel_rfl) (fun _ _ _ h => h) (Or.inl ⟨by rfl, by (intro w' hSw; go_simp; try with_reducible rfl)⟩) rfl (by assumption) ?_; simp only [lset]
            refine wpAnyH_done (by kernel_rfl) ?_ _
            go_wp2_with fail
            go_roundw
            case rel => exact ⟨k + 1, by go_num, Lib.hid (by have := HKN.out; omega), B2⟩
            case measure => have := HKN.out; simp [intOf]; omega
          · skip
            have t1 : decide ((k : Int) < (lc.length : Int)) = false := decide_eq_false (by omega)
            have t2 : ¬ ((k : Int) < (lc.length : Int)) := by omega
            clear hkn
            go_wp2_with fail
            refine (C3.out _).mono ?_
            rintro e w3 ⟨rfl, b3⟩
            have B3 := Lib.hid (B17.out.trans ((HW.out.trans (b3.mono HW.out.size)).mono B17.out.size))
            go_wp2
            go_ret
            exact ⟨rfl, B3.out⟩
      · skip
        have hse := HEL.out (by omega)
        subst hse
        clear HEL HKE
        go_upto_region 19 with fail
        clear c14 E14
        have hg15 : W13.alloc (.cells (celD 1 ve ⟨#[]⟩) 63) = W13.alloc (.cells (celD (outK 1) (outV 1 ve) ⟨#[]⟩) 63) := rfl
        rw [hg15]
        clear hg15
        obtain ⟨rk, hrk⟩ : ∃ rk, outK 1 = rk := ⟨_, rfl⟩
        obtain ⟨rv, hrv⟩ : ∃ rv, outV 1 ve = rv := ⟨_, rfl⟩
        rw [hrk, hrv] at KR ⊢
        clear hrk hrv
        have bE := below_a1 W13 (.cells (celD rk rv ⟨#[]⟩) 63)
        have ks := new1 W13 (celD rk rv ⟨#[]⟩) 63
        obtain ⟨W15, hW15⟩ : ∃ W15, W13.alloc (.cells (celD rk rv ⟨#[]⟩) 63) = W15 := ⟨_, rfl⟩
        rw [hW15] at bE ks ⊢
        have hS := S13.out
        have kmc : W15.cell? ⟨wb + 1, 0, none⟩ = some (.int .i64 1) := (cell_of_row _ _ 0 _ _ _ ((bE.block _ (by omega)).trans KM13.out)).trans rfl
        have kw15 := (bE.block _ (show wb < W13.heap.size by omega)).trans KW13.out
        have kfc : W15.cell? ⟨wb, 0, none⟩ = some (.int .i64 0) := (cell_of_row _ _ 0 _ _ _ kw15).trans rfl
        have kac : W15.cell? ⟨wb, 6, none⟩ = some (.slice A9 lc.length c9) := (cell_of_row _ _ 6 _ _ _ kw15).trans rfl
        have KW := Lib.hid kw15
        have KF := Lib.hid ((bE.block _ (show w.heap.size + 1 < W13.heap.size by omega)).trans F13.out)
        have KR15 := Lib.hid ((bE.block _ (show W12.heap.size < W13.heap.size by omega)).trans KR.out)
        have KS := Lib.hid ks
        have V9e := Lib.hid (V9.out.on (bE.mono (show W12.heap.size ≤ W13.heap.size by omega)))
        have V7e := Lib.hid (V7.out.on (bE.mono (show W12.heap.size ≤ W13.heap.size by omega)))
        have B15 := Lib.hid (B13.out.trans (bE.mono B13.out.size))
        have S15 := Lib.hid (show wb + 1 < W15.heap.size ∧ w.heap.size ≤ W15.heap.size ∧ w.heap.size + 1 < W15.heap.size ∧ W12.heap.size < W15.heap.size ∧ W13.heap.size < W15.heap.size from by
          have h1 := bE.size
          have h2 := (Array.getElem?_eq_some_iff.1 ks).1
          exact ⟨by omega, by omega, by omega, by omega, h2⟩)
        have C1 := Lib.hid (fun W => fBits_any v1 v1 W)
        rw [bits_self] at C1
        have C2 := Lib.hid (fun W => same_self rk rv ⟨#[]⟩ W)
        have C3 := Lib.hid (fun W => awake_any W)
        clear bE ks hS kw15 hW15 E13 F13 KM13 KW13 V9 V7 B13 KR S13
        go_wp2_with (first | refine ldP (k := 80) (ldSegW KW.out) rfl (by kernel_rfl) rfl rfl ?_ | refine ldP (k := 81) (run_loadVar_row _ (w.heap.size + 1) 57 57 _ (0, 0) _ KF.out Tryz.underlying57 rfl (by kernel_rfl)) rfl (by kernel_rfl) rfl rfl ?_)
        refine (C1.out _).mono ?_
        rintro e W16 ⟨rfl, b16⟩
        have hS := S15.out
        have kw16 := (b16.block _ (show wb < W15.heap.size by omega)).trans KW.out
        have kad : W16.cell? ⟨wb, 6, none⟩ = some (.slice A9 lc.length c9) := (cell_of_row _ _ 6 _ _ _ kw16).trans rfl
        have KW6 := Lib.hid kw16
        have KR6 := Lib.hid ((b16.block _ (show W12.heap.size < W15.heap.size by omega)).trans KR15.out)
        have KS6 := Lib.hid ((b16.block _ (show W13.heap.size < W15.heap.size by omega)).trans KS.out)
        have B16 := Lib.hid (B15.out.trans (b16.mono B15.out.size))
        have V9f := Lib.hid (V9e.out.on (b16.mono (by omega)))
        have V7f := Lib.hid (V7e.out.on (b16.mono (by omega)))
        have S16 := Lib.hid (show wb < W16.heap.size by have := b16.size; omega)
        have D16 := Lib.hid (show W12.heap.size < W16.heap.size by have := b16.size; omega)
        clear b16 hS kw16 kmc kfc kac KW KF KR15 KS B15 V9e V7e S15 C1
        go_wp2_with (first | refine ldP (k := 94) (run_loadVar_row _ W12.heap.size 63 63 _ (0, 0) _ KR6.out Tryz.underlying63 rfl (by kernel_rfl)) rfl (by kernel_rfl) rfl rfl ?_ | refine ldP (k := 95) (run_loadVar_row _ W13.heap.size 63 63 _ (0, 0) _ KS6.out Tryz.underlying63 rfl (by kernel_rfl)) rfl (by kernel_rfl) rfl rfl ?_)
        refine (C2.out _).mono ?_
        rintro e W17 ⟨rfl, b17⟩
        have KW7 := Lib.hid ((b17.block _ S16.out).trans KW6.out)
        have B17 := Lib.hid (B16.out.trans (b17.mono B16.out.size))
        have V9g := Lib.hid ((V9f.out.on (b17.mono (Nat.le_of_lt D16.out))))
        have V7g := Lib.hid ((V7f.out.on (b17.mono (Nat.le_of_lt D16.out))))
        have S17 := Lib.hid (show wb < W17.heap.size ∧ W12.heap.size ≤ W17.heap.size by have := b17.size; have := S16.out; have := D16.out; omega)
        clear b17 kad KR6 KS6 B16 V9f V7f S16 D16 KW6 C2
        go_wp2_with fail
        go_loopw [16] (fun v16 wr => ∃ k : Nat, v16 = .int .i64 (k : Nat) ∧ Hid (k ≤ lc.length) ∧ Hid (Below W17.heap.size W17 wr)) (fun v16 _ => ((lc.length : Int) - intOf v16).toNat)
        case atStart => exact ⟨0, rfl, Lib.hid (Nat.zero_le _), Lib.hid (Below.refl _ _)⟩
        case round =>
          obtain ⟨k, rfl, HK, HW⟩ := hrel
          by_cases hkn : k < lc.length
          · skip
            have hm' := HSZ2.out.1
            have t1 : decide ((k : Int) < (lc.length : Int)) = true := decide_eq_true (by omega)
            have t2 : (k : Int) < (lc.length : Int) := by omega
            have t3 : (0 : Int) ≤ (k : Int) := by omega
            have k1 : IntKind.i64.wrap ((k : Int) + 1) = ((k + 1 : Nat) : Int) := by rw [IntWalk.i64_in _ (by omega)]; omega
            obtain ⟨x, hx⟩ : ∃ x, lc[k]? = some x := ⟨_, List.getElem?_eq_getElem hkn⟩
            obtain ⟨b, o, hA, hbl, hat⟩ := V9g.out.at' (by rintro rfl; simp at hkn)
            obtain ⟨b', o', hA', hbl', hat'⟩ := V7g.out.at' (by rintro rfl; simp at hkn)
            subst hA
            subst hA'
            have hS := S17.out
            have CA := Lib.hid ((hat k x hx).on HW.out (by omega))
            have CB := Lib.hid ((hat' k x hx).on HW.out (by omega))
            have CW := Lib.hid ((cell_of_row _ _ 6 _ _ _ ((HW.out.block _ hS.1).trans KW7.out)).trans (show (celE 0 v1 (.slice (some ⟨b, o, none⟩) lc.length c9))[6]? = some (.slice (some ⟨b, o, none⟩) lc.length c9) from rfl))
            have HL := Lib.hid (show b < wr.heap.size ∧ b' < wr.heap.size ∧ wb < wr.heap.size by have := HW.out.size; omega)
            have HKN := Lib.hid hkn
            have C1 := Lib.hid (fun W => fBits_any x x W)
            rw [bits_self] at C1
            clear hx hkn hm' hat hat' hbl hbl' hS
            go_upto_region 24 with fail
            refine wp_region_held_drew (S := fun W => W.cell? ⟨wb, 6, none⟩ = some (.slice (some ⟨b, o, none⟩) lc.length c9) ∧ CelAt W b (o + k * 5) x ∧ CelAt W b' (o' + k * 5) x) (by kernel_rfl) ⟨CW.out, CA.out.on (Below.refl _ _).drew HL.out.1, CB.out.on (Below.refl _ _).drew HL.out.2.1⟩ (fun hHeld => ?_)
            refine take_s (i := 0) rfl (by kernel_rfl) (by kernel_rfl) (by kernel_rfl) (fun _ _ _ h => h) (Or.inl ⟨by rfl, by (intro w' hSw; go_simp; try with_reducible rfl)⟩) rfl (by assumption) ?_; simp only [lset]
            refine take_s (v := .slice (some ⟨b, o, none⟩) lc.length c9) (i := 1) rfl (by kernel_rfl) (by kernel_rfl) (by kernel_rfl) (fun _ _ _ h => h) (Or.inl ⟨by rfl, by (intro w' hSw; have c := hSw.1; go_simp)⟩) rfl (by assumption) ?_; simp only [lset]
            refine take_s (i := 2) rfl (by kernel_rfl) (by kernel_rfl) (by kernel_rfl) (fun _ _ _ h => h) (Or.inl ⟨by rfl, by (intro w' hSw; go_simp; try with_reducible rfl)⟩) rfl (by assumption) ?_; simp only [lset]
            refine take_s (v := .pointer (some ⟨b, o + k * 5, none⟩)) (i := 3) rfl (by kernel_rfl) (by kernel_rfl) (by kernel_rfl) (fun _ _ _ h => h) (Or.inl ⟨by rfl, by (intro w' hSw; go_simp; try with_reducible rfl)⟩) rfl (by assumption) ?_; simp only [lset]
            refine take_s (v := .agg (celX x)) (i := 4) rfl (by kernel_rfl) (by kernel_rfl) (by kernel_rfl) (fun _ _ _ h => h) (Or.inl ⟨by rfl, by (intro w' hSw; exact ldA_run hSw.2.1.ld rfl rfl)⟩) rfl (by assumption) ?_; simp only [lset]
            refine take_s (i := 5) rfl (by kernel_rfl) (by kernel_rfl) (by kernel_rfl) (fun _ _ _ h => h) (Or.inl ⟨by rfl, by (intro w' hSw; go_simp; try with_reducible rfl)⟩) rfl (by assumption) ?_; simp only [lset]
            refine take_s (i := 6) rfl (by kernel_rfl) (by kernel_rfl) (by kernel_rfl) (fun _ _ _ h => h) (Or.inl ⟨by rfl, by (intro w' hSw; go_simp; try with_reducible rfl)⟩) rfl (by assumption) ?_; simp only [lset]
            refine take_s (v := .pointer (some ⟨b', o' + k * 5, none⟩)) (i := 7) rfl (by kernel_rfl) (by kernel_rfl) (by kernel_rfl) (fun _ _ _ h => h) (Or.inl ⟨by rfl, by (intro w' hSw; go_simp; try with_reducible rfl)⟩) rfl (by assumption) ?_; simp only [lset]
            refine take_s (v := .agg (celX x)) (i := 8) rfl (by kernel_rfl) (by kernel_rfl) (by kernel_rfl) (fun _ _ _ h => h) (Or.inl ⟨by rfl, by (intro w' hSw; exact ldA_run hSw.2.2.ld rfl rfl)⟩) rfl (by assumption) ?_; simp only [lset]
            refine call_s (i := 9) (by kernel_rfl) rfl rfl (by rfl) (fun K hK => ?_)
            go_simp
            refine (C1.out _).mono ?_
            rintro e w2 ⟨rfl, b2⟩
            have B2 := Lib.hid (HW.out.trans (((Below.refl _ _).drew.trans b2).mono HW.out.size))
            have hHeld2 := And.intro ((World.cell?_of_block (b2.block _ HL.out.2.2)).trans CW.out) (And.intro (CA.out.on ((Below.refl _ _).drew.trans b2) HL.out.1) (CB.out.on ((Below.refl _ _).drew.trans b2) HL.out.2.1))
            refine hK.out _ _ hHeld2 ?_; clear hK K hHeld b2 C1 CA CB CW HL HW; simp only [lset]
            refine take_s (i := 10) rfl (by kernel_rfl) (by kernel_rfl) (by kernel_rfl) (fun _ _ _ h => h) (Or.inl ⟨by rfl, by (intro w' hSw; go_simp; try with_reducible rfl)⟩) rfl (by assumption) ?_; simp only [lset]
            refine wpAnyH_done (by kernel_rfl) ?_ _
            go_wp2_with fail
            go_roundw
            case rel => exact ⟨k + 1, by go_num, Lib.hid (by have := HKN.out; omega), B2⟩
            case measure => have := HKN.out; simp [intOf]; omega
          · skip
            have t1 : decide ((k : Int) < (lc.length : Int)) = false := decide_eq_false (by omega)
            have t2 : ¬ ((k : Int) < (lc.length : Int)) := by omega
            clear hkn
            go_wp2_with fail
            refine (C3.out _).mono ?_
            rintro e w3 ⟨rfl, b3⟩
            have B3 := Lib.hid (B17.out.trans ((HW.out.trans (b3.mono HW.out.size)).mono B17.out.size))
            go_wp2
            go_ret
            exact ⟨rfl, B3.out⟩
      · skip
        clear HEL HKE
        go_upto_region 19 with (refine ldP (k := 64) (ldSegD E14.out) rfl (by kernel_rfl) rfl rfl ?_)
        clear c14 E14
        have hg15 : W13.alloc (.cells (celD 0 ve ⟨#[]⟩) 63) = W13.alloc (.cells (celD (outK 2) (outV 2 ve) ⟨#[]⟩) 63) := rfl
        rw [hg15]
        clear hg15
        obtain ⟨rk, hrk⟩ : ∃ rk, outK 2 = rk := ⟨_, rfl⟩
        obtain ⟨rv, hrv⟩ : ∃ rv, outV 2 ve = rv := ⟨_, rfl⟩
        rw [hrk, hrv] at KR ⊢
        clear hrk hrv
        have bE := below_a1 W13 (.cells (celD rk rv ⟨#[]⟩) 63)
        have ks := new1 W13 (celD rk rv ⟨#[]⟩) 63
        obtain ⟨W15, hW15⟩ : ∃ W15, W13.alloc (.cells (celD rk rv ⟨#[]⟩) 63) = W15 := ⟨_, rfl⟩
        rw [hW15] at bE ks ⊢
        have hS := S13.out
        have kmc : W15.cell? ⟨wb + 1, 0, none⟩ = some (.int .i64 1) := (cell_of_row _ _ 0 _ _ _ ((bE.block _ (by omega)).trans KM13.out)).trans rfl
        have kw15 := (bE.block _ (show wb < W13.heap.size by omega)).trans KW13.out
        have kfc : W15.cell? ⟨wb, 0, none⟩ = some (.int .i64 0) := (cell_of_row _ _ 0 _ _ _ kw15).trans rfl
        have kac : W15.cell? ⟨wb, 6, none⟩ = some (.slice A9 lc.length c9) := (cell_of_row _ _ 6 _ _ _ kw15).trans rfl
        have KW := Lib.hid kw15
        have KF := Lib.hid ((bE.block _ (show w.heap.size + 1 < W13.heap.size by omega)).trans F13.out)
        have KR15 := Lib.hid ((bE.block _ (show W12.heap.size < W13.heap.size by omega)).trans KR.out)
        have KS := Lib.hid ks
        have V9e := Lib.hid (V9.out.on (bE.mono (show W12.heap.size ≤ W13.heap.size by omega)))
        have V7e := Lib.hid (V7.out.on (bE.mono (show W12.heap.size ≤ W13.heap.size by omega)))
        have B15 := Lib.hid (B13.out.trans (bE.mono B13.out.size))
        have S15 := Lib.hid (show wb + 1 < W15.heap.size ∧ w.heap.size ≤ W15.heap.size ∧ w.heap.size + 1 < W15.heap.size ∧ W12.heap.size < W15.heap.size ∧ W13.heap.size < W15.heap.size from by
          have h1 := bE.size
          have h2 := (Array.getElem?_eq_some_iff.1 ks).1
          exact ⟨by omega, by omega, by omega, by omega, h2⟩)
        have C1 := Lib.hid (fun W => fBits_any v1 v1 W)
        rw [bits_self] at C1
        have C2 := Lib.hid (fun W => same_self rk rv ⟨#[]⟩ W)
        have C3 := Lib.hid (fun W => awake_any W)
        clear bE ks hS kw15 hW15 E13 F13 KM13 KW13 V9 V7 B13 KR S13
        go_wp2_with (first | refine ldP (k := 80) (ldSegW KW.out) rfl (by kernel_rfl) rfl rfl ?_ | refine ldP (k := 81) (run_loadVar_row _ (w.heap.size + 1) 57 57 _ (0, 0) _ KF.out Tryz.underlying57 rfl (by kernel_rfl)) rfl (by kernel_rfl) rfl rfl ?_)
        refine (C1.out _).mono ?_
        rintro e W16 ⟨rfl, b16⟩
        have hS := S15.out
        have kw16 := (b16.block _ (show wb < W15.heap.size by omega)).trans KW.out
        have kad : W16.cell? ⟨wb, 6, none⟩ = some (.slice A9 lc.length c9) := (cell_of_row _ _ 6 _ _ _ kw16).trans rfl
        have KW6 := Lib.hid kw16
        have KR6 := Lib.hid ((b16.block _ (show W12.heap.size < W15.heap.size by omega)).trans KR15.out)
        have KS6 := Lib.hid ((b16.block _ (show W13.heap.size < W15.heap.size by omega)).trans KS.out)
        have B16 := Lib.hid (B15.out.trans (b16.mono B15.out.size))
        have V9f := Lib.hid (V9e.out.on (b16.mono (by omega)))
        have V7f := Lib.hid (V7e.out.on (b16.mono (by omega)))
        have S16 := Lib.hid (show wb < W16.heap.size by have := b16.size; omega)
        have D16 := Lib.hid (show W12.heap.size < W16.heap.size by have := b16.size; omega)
        clear b16 hS kw16 kmc kfc kac KW KF KR15 KS B15 V9e V7e S15 C1
        go_wp2_with (first | refine ldP (k := 94) (run_loadVar_row _ W12.heap.size 63 63 _ (0, 0) _ KR6.out Tryz.underlying63 rfl (by kernel_rfl)) rfl (by kernel_rfl) rfl rfl ?_ | refine ldP (k := 95) (run_loadVar_row _ W13.heap.size 63 63 _ (0, 0) _ KS6.out Tryz.underlying63 rfl (by kernel_rfl)) rfl (by kernel_rfl) rfl rfl ?_)
        refine (C2.out _).mono ?_
        rintro e W17 ⟨rfl, b17⟩
        have KW7 := Lib.hid ((b17.block _ S16.out).trans KW6.out)
        have B17 := Lib.hid (B16.out.trans (b17.mono B16.out.size))
        have V9g := Lib.hid ((V9f.out.on (b17.mono (Nat.le_of_lt D16.out))))
        have V7g := Lib.hid ((V7f.out.on (b17.mono (Nat.le_of_lt D16.out))))
        have S17 := Lib.hid (show wb < W17.heap.size ∧ W12.heap.size ≤ W17.heap.size by have := b17.size; have := S16.out; have := D16.out; omega)
        clear b17 kad KR6 KS6 B16 V9f V7f S16 D16 KW6 C2
        go_wp2_with fail
        go_loopw [16] (fun v16 wr => ∃ k : Nat, v16 = .int .i64 (k : Nat) ∧ Hid (k ≤ lc.length) ∧ Hid (Below W17.heap.size W17 wr)) (fun v16 _ => ((lc.length : Int) - intOf v16).toNat)
        case atStart => exact ⟨0, rfl, Lib.hid (Nat.zero_le _), Lib.hid (Below.refl _ _)⟩
        case round =>
          obtain ⟨k, rfl, HK, HW⟩ := hrel
          by_cases hkn : k < lc.length
          · skip
            have hm' := HSZ2.out.1
            have t1 : decide ((k : Int) < (lc.length : Int)) = true := decide_eq_true (by omega)
            have t2 : (k : Int) < (lc.length : Int) := by omega
            have t3 : (0 : Int) ≤ (k : Int) := by omega
            have k1 : IntKind.i64.wrap ((k : Int) + 1) = ((k + 1 : Nat) : Int) := by rw [IntWalk.i64_in _ (by omega)]; omega
            obtain ⟨x, hx⟩ : ∃ x, lc[k]? = some x := ⟨_, List.getElem?_eq_getElem hkn⟩
            obtain ⟨b, o, hA, hbl, hat⟩ := V9g.out.at' (by rintro rfl; simp at hkn)
            obtain ⟨b', o', hA', hbl', hat'⟩ := V7g.out.at' (by rintro rfl; simp at hkn)
            subst hA
            subst hA'
            have hS := S17.out
            have CA := Lib.hid ((hat k x hx).on HW.out (by omega))
            have CB := Lib.hid ((hat' k x hx).on HW.out (by omega))
            have CW := Lib.hid ((cell_of_row _ _ 6 _ _ _ ((HW.out.block _ hS.1).trans KW7.out)).trans (show (celE 0 v1 (.slice (some ⟨b, o, none⟩) lc.length c9))[6]? = some (.slice (some ⟨b, o, none⟩) lc.length c9) from rfl))
            have HL := Lib.hid (show b < wr.heap.size ∧ b' < wr.heap.size ∧ wb < wr.heap.size by have := HW.out.size; omega)
            have HKN := Lib.hid hkn
            have C1 := Lib.hid (fun W => fBits_any x x W)
            rw [bits_self] at C1
            clear hx hkn hm' hat hat' hbl hbl' hS
            go_upto_region 24 with fail
            refine wp_region_held_drew (S := fun W => W.cell? ⟨wb, 6, none⟩ = some (.slice (some ⟨b, o, none⟩) lc.length c9) ∧ CelAt W b (o + k * 5) x ∧ CelAt W b' (o' + k * 5) x) (by kernel_rfl) ⟨CW.out, CA.out.on (Below.refl _ _).drew HL.out.1, CB.out.on (Below.refl _ _).drew HL.out.2.1⟩ (fun hHeld => ?_)
            refine take_s (i := 0) rfl (by kernel_rfl) (by kernel_rfl) (by kernel_rfl) (fun _ _ _ h => h) (Or.inl ⟨by rfl, by (intro w' hSw; go_simp; try with_reducible rfl)⟩) rfl (by assumption) ?_; simp only [lset]
            refine take_s (v := .slice (some ⟨b, o, none⟩) lc.length c9) (i := 1) rfl (by kernel_rfl) (by kernel_rfl) (by kernel_rfl) (fun _ _ _ h => h) (Or.inl ⟨by rfl, by (intro w' hSw; have c := hSw.1; go_simp)⟩) rfl (by assumption) ?_; simp only [lset]
            refine take_s (i := 2) rfl (by kernel_rfl) (by kernel_rfl) (by kernel_rfl) (fun _ _ _ h => h) (Or.inl ⟨by rfl, by (intro w' hSw; go_simp; try with_reducible rfl)⟩) rfl (by assumption) ?_; simp only [lset]
            refine take_s (v := .pointer (some ⟨b, o + k * 5, none⟩)) (i := 3) rfl (by kernel_rfl) (by kernel_rfl) (by kernel_rfl) (fun _ _ _ h => h) (Or.inl ⟨by rfl, by (intro w' hSw; go_simp; try with_reducible rfl)⟩) rfl (by assumption) ?_; simp only [lset]
            refine take_s (v := .agg (celX x)) (i := 4) rfl (by kernel_rfl) (by kernel_rfl) (by kernel_rfl) (fun _ _ _ h => h) (Or.inl ⟨by rfl, by (intro w' hSw; exact ldA_run hSw.2.1.ld rfl rfl)⟩) rfl (by assumption) ?_; simp only [lset]
            refine take_s (i := 5) rfl (by kernel_rfl) (by kernel_rfl) (by kernel_rfl) (fun _ _ _ h => h) (Or.inl ⟨by rfl, by (intro w' hSw; go_simp; try with_reducible rfl)⟩) rfl (by assumption) ?_; simp only [lset]
            refine take_s (i := 6) rfl (by kernel_rfl) (by kernel_rfl) (by kernel_rfl) (fun _ _ _ h => h) (Or.inl ⟨by rfl, by (intro w' hSw; go_simp; try with_reducible rfl)⟩) rfl (by assumption) ?_; simp only [lset]
            refine take_s (v := .pointer (some ⟨b', o' + k * 5, none⟩)) (i := 7) rfl (by kernel_rfl) (by kernel_rfl) (by kernel_rfl) (fun _ _ _ h => h) (Or.inl ⟨by rfl, by (intro w' hSw; go_simp; try with_reducible rfl)⟩) rfl (by assumption) ?_; simp only [lset]
            refine take_s (v := .agg (celX x)) (i := 8) rfl (by kernel_rfl) (by kernel_rfl) (by kernel_rfl) (fun _ _ _ h => h) (Or.inl ⟨by rfl, by (intro w' hSw; exact ldA_run hSw.2.2.ld rfl rfl)⟩) rfl (by assumption) ?_; simp only [lset]
            refine call_s (i := 9) (by kernel_rfl) rfl rfl (by rfl) (fun K hK => ?_)
            go_simp
            refine (C1.out _).mono ?_
            rintro e w2 ⟨rfl, b2⟩
            have B2 := Lib.hid (HW.out.trans (((Below.refl _ _).drew.trans b2).mono HW.out.size))
            have hHeld2 := And.intro ((World.cell?_of_block (b2.block _ HL.out.2.2)).trans CW.out) (And.intro (CA.out.on ((Below.refl _ _).drew.trans b2) HL.out.1) (CB.out.on ((Below.refl _ _).drew.trans b2) HL.out.2.1))
            refine hK.out _ _ hHeld2 ?_; clear hK K hHeld b2 C1 CA CB CW HL HW; simp only [lset]
            refine take_s (i := 10) rfl (by kernel_rfl) (by kernel_rfl) (by kernel_rfl) (fun _ _ _ h => h) (Or.inl ⟨by rfl, by (intro w' hSw; go_simp; try with_reducible rfl)⟩) rfl (by assumption) ?_; simp only [lset]
            refine wpAnyH_done (by kernel_rfl) ?_ _
            go_wp2_with fail
            go_roundw
            case rel => exact ⟨k + 1, by go_num, Lib.hid (by have := HKN.out; omega), B2⟩
            case measure => have := HKN.out; simp [intOf]; omega
          · skip
            have t1 : decide ((k : Int) < (lc.length : Int)) = false := decide_eq_false (by omega)
            have t2 : ¬ ((k : Int) < (lc.length : Int)) := by omega
            clear hkn
            go_wp2_with fail
            refine (C3.out _).mono ?_
            rintro e w3 ⟨rfl, b3⟩
            have B3 := Lib.hid (B17.out.trans ((HW.out.trans (b3.mono HW.out.size)).mono B17.out.size))
            go_wp2
            go_ret
            exact ⟨rfl, B3.out⟩
      · skip
        clear HEL HKE
        go_upto_region 19 with fail
        clear c14 E14
        have hg15 : W13.alloc (.cells (zD) 63) = W13.alloc (.cells (celD (outK 3) (outV 3 ve) ⟨#[]⟩) 63) := rfl
        rw [hg15]
        clear hg15
        obtain ⟨rk, hrk⟩ : ∃ rk, outK 3 = rk := ⟨_, rfl⟩
        obtain ⟨rv, hrv⟩ : ∃ rv, outV 3 ve = rv := ⟨_, rfl⟩
        rw [hrk, hrv] at KR ⊢
        clear hrk hrv
        have bE := below_a1 W13 (.cells (celD rk rv ⟨#[]⟩) 63)
        have ks := new1 W13 (celD rk rv ⟨#[]⟩) 63
        obtain ⟨W15, hW15⟩ : ∃ W15, W13.alloc (.cells (celD rk rv ⟨#[]⟩) 63) = W15 := ⟨_, rfl⟩
        rw [hW15] at bE ks ⊢
        have hS := S13.out
        have kmc : W15.cell? ⟨wb + 1, 0, none⟩ = some (.int .i64 1) := (cell_of_row _ _ 0 _ _ _ ((bE.block _ (by omega)).trans KM13.out)).trans rfl
        have kw15 := (bE.block _ (show wb < W13.heap.size by omega)).trans KW13.out
        have kfc : W15.cell? ⟨wb, 0, none⟩ = some (.int .i64 0) := (cell_of_row _ _ 0 _ _ _ kw15).trans rfl
        have kac : W15.cell? ⟨wb, 6, none⟩ = some (.slice A9 lc.length c9) := (cell_of_row _ _ 6 _ _ _ kw15).trans rfl
        have KW := Lib.hid kw15
        have KF := Lib.hid ((bE.block _ (show w.heap.size + 1 < W13.heap.size by omega)).trans F13.out)
        have KR15 := Lib.hid ((bE.block _ (show W12.heap.size < W13.heap.size by omega)).trans KR.out)
        have KS := Lib.hid ks
        have V9e := Lib.hid (V9.out.on (bE.mono (show W12.heap.size ≤ W13.heap.size by omega)))
        have V7e := Lib.hid (V7.out.on (bE.mono (show W12.heap.size ≤ W13.heap.size by omega)))
        have B15 := Lib.hid (B13.out.trans (bE.mono B13.out.size))
        have S15 := Lib.hid (show wb + 1 < W15.heap.size ∧ w.heap.size ≤ W15.heap.size ∧ w.heap.size + 1 < W15.heap.size ∧ W12.heap.size < W15.heap.size ∧ W13.heap.size < W15.heap.size from by
          have h1 := bE.size
          have h2 := (Array.getElem?_eq_some_iff.1 ks).1
          exact ⟨by omega, by omega, by omega, by omega, h2⟩)
        have C1 := Lib.hid (fun W => fBits_any v1 v1 W)
        rw [bits_self] at C1
        have C2 := Lib.hid (fun W => same_self rk rv ⟨#[]⟩ W)
        have C3 := Lib.hid (fun W => awake_any W)
        clear bE ks hS kw15 hW15 E13 F13 KM13 KW13 V9 V7 B13 KR S13
        go_wp2_with (first | refine ldP (k := 80) (ldSegW KW.out) rfl (by kernel_rfl) rfl rfl ?_ | refine ldP (k := 81) (run_loadVar_row _ (w.heap.size + 1) 57 57 _ (0, 0) _ KF.out Tryz.underlying57 rfl (by kernel_rfl)) rfl (by kernel_rfl) rfl rfl ?_)
        refine (C1.out _).mono ?_
        rintro e W16 ⟨rfl, b16⟩
        have hS := S15.out
        have kw16 := (b16.block _ (show wb < W15.heap.size by omega)).trans KW.out
        have kad : W16.cell? ⟨wb, 6, none⟩ = some (.slice A9 lc.length c9) := (cell_of_row _ _ 6 _ _ _ kw16).trans rfl
        have KW6 := Lib.hid kw16
        have KR6 := Lib.hid ((b16.block _ (show W12.heap.size < W15.heap.size by omega)).trans KR15.out)
        have KS6 := Lib.hid ((b16.block _ (show W13.heap.size < W15.heap.size by omega)).trans KS.out)
        have B16 := Lib.hid (B15.out.trans (b16.mono B15.out.size))
        have V9f := Lib.hid (V9e.out.on (b16.mono (by omega)))
        have V7f := Lib.hid (V7e.out.on (b16.mono (by omega)))
        have S16 := Lib.hid (show wb < W16.heap.size by have := b16.size; omega)
        have D16 := Lib.hid (show W12.heap.size < W16.heap.size by have := b16.size; omega)
        clear b16 hS kw16 kmc kfc kac KW KF KR15 KS B15 V9e V7e S15 C1
        go_wp2_with (first | refine ldP (k := 94) (run_loadVar_row _ W12.heap.size 63 63 _ (0, 0) _ KR6.out Tryz.underlying63 rfl (by kernel_rfl)) rfl (by kernel_rfl) rfl rfl ?_ | refine ldP (k := 95) (run_loadVar_row _ W13.heap.size 63 63 _ (0, 0) _ KS6.out Tryz.underlying63 rfl (by kernel_rfl)) rfl (by kernel_rfl) rfl rfl ?_)
        refine (C2.out _).mono ?_
        rintro e W17 ⟨rfl, b17⟩
        have KW7 := Lib.hid ((b17.block _ S16.out).trans KW6.out)
        have B17 := Lib.hid (B16.out.trans (b17.mono B16.out.size))
        have V9g := Lib.hid ((V9f.out.on (b17.mono (Nat.le_of_lt D16.out))))
        have V7g := Lib.hid ((V7f.out.on (b17.mono (Nat.le_of_lt D16.out))))
        have S17 := Lib.hid (show wb < W17.heap.size ∧ W12.heap.size ≤ W17.heap.size by have := b17.size; have := S16.out; have := D16.out; omega)
        clear b17 kad KR6 KS6 B16 V9f V7f S16 D16 KW6 C2
        go_wp2_with fail
        go_loopw [16] (fun v16 wr => ∃ k : Nat, v16 = .int .i64 (k : Nat) ∧ Hid (k ≤ lc.length) ∧ Hid (Below W17.heap.size W17 wr)) (fun v16 _ => ((lc.length : Int) - intOf v16).toNat)
        case atStart => exact ⟨0, rfl, Lib.hid (Nat.zero_le _), Lib.hid (Below.refl _ _)⟩
        case round =>
          obtain ⟨k, rfl, HK, HW⟩ := hrel
          by_cases hkn : k < lc.length
          · skip
            have hm' := HSZ2.out.1
            have t1 : decide ((k : Int) < (lc.length : Int)) = true := decide_eq_true (by omega)
            have t2 : (k : Int) < (lc.length : Int) := by omega
            have t3 : (0 : Int) ≤ (k : Int) := by omega
            have k1 : IntKind.i64.wrap ((k : Int) + 1) = ((k + 1 : Nat) : Int) := by rw [IntWalk.i64_in _ (by omega)]; omega
            obtain ⟨x, hx⟩ : ∃ x, lc[k]? = some x := ⟨_, List.getElem?_eq_getElem hkn⟩
            obtain ⟨b, o, hA, hbl, hat⟩ := V9g.out.at' (by rintro rfl; simp at hkn)
            obtain ⟨b', o', hA', hbl', hat'⟩ := V7g.out.at' (by rintro rfl; simp at hkn)
            subst hA
            subst hA'
            have hS := S17.out
            have CA := Lib.hid ((hat k x hx).on HW.out (by omega))
            have CB := Lib.hid ((hat' k x hx).on HW.out (by omega))
            have CW := Lib.hid ((cell_of_row _ _ 6 _ _ _ ((HW.out.block _ hS.1).trans KW7.out)).trans (show (celE 0 v1 (.slice (some ⟨b, o, none⟩) lc.length c9))[6]? = some (.slice (some ⟨b, o, none⟩) lc.length c9) from rfl))
            have HL := Lib.hid (show b < wr.heap.size ∧ b' < wr.heap.size ∧ wb < wr.heap.size by have := HW.out.size; omega)
            have HKN := Lib.hid hkn
            have C1 := Lib.hid (fun W => fBits_any x x W)
            rw [bits_self] at C1
            clear hx hkn hm' hat hat' hbl hbl' hS
            go_upto_region 24 with fail
            refine wp_region_held_drew (S := fun W => W.cell? ⟨wb, 6, none⟩ = some (.slice (some ⟨b, o, none⟩) lc.length c9) ∧ CelAt W b (o + k * 5) x ∧ CelAt W b' (o' + k * 5) x) (by kernel_rfl) ⟨CW.out, CA.out.on (Below.refl _ _).drew HL.out.1, CB.out.on (Below.refl _ _).drew HL.out.2.1⟩ (fun hHeld => ?_)
            refine take_s (i := 0) rfl (by kernel_rfl) (by kernel_rfl) (by kernel_rfl) (fun _ _ _ h => h) (Or.inl ⟨by rfl, by (intro w' hSw; go_simp; try with_reducible rfl)⟩) rfl (by assumption) ?_; simp only [lset]
            refine take_s (v := .slice (some ⟨b, o, none⟩) lc.length c9) (i := 1) rfl (by kernel_rfl) (by kernel_rfl) (by kernel_rfl) (fun _ _ _ h => h) (Or.inl ⟨by rfl, by (intro w' hSw; have c := hSw.1; go_simp)⟩) rfl (by assumption) ?_; simp only [lset]
            refine take_s (i := 2) rfl (by kernel_rfl) (by kernel_rfl) (by kernel_rfl) (fun _ _ _ h => h) (Or.inl ⟨by rfl, by (intro w' hSw; go_simp; try with_reducible rfl)⟩) rfl (by assumption) ?_; simp only [lset]
            refine take_s (v := .pointer (some ⟨b, o + k * 5, none⟩)) (i := 3) rfl (by kernel_rfl) (by kernel_rfl) (by kernel_rfl) (fun _ _ _ h => h) (Or.inl ⟨by rfl, by (intro w' hSw; go_simp; try with_reducible rfl)⟩) rfl (by assumption) ?_; simp only [lset]
            refine take_s (v := .agg (celX x)) (i := 4) rfl (by kernel_rfl) (by kernel_rfl) (by kernel_rfl) (fun _ _ _ h => h) (Or.inl ⟨by rfl, by (intro w' hSw; exact ldA_run hSw.2.1.ld rfl rfl)⟩) rfl (by assumption) ?_; simp only [lset]
            refine take_s (i := 5) rfl (by kernel_rfl) (by kernel_rfl) (by kernel_rfl) (fun _ _ _ h => h) (Or.inl ⟨by rfl, by (intro w' hSw; go_simp; try with_reducible rfl)⟩) rfl (by assumption) ?_; simp only [lset]
            refine take_s (i := 6) rfl (by kernel_rfl) (by kernel_rfl) (by kernel_rfl) (fun _ _ _ h => h) (Or.inl ⟨by rfl, by (intro w' hSw; go_simp; try with_reducible rfl)⟩) rfl (by assumption) ?_; simp only [lset]
            refine take_s (v := .pointer (some ⟨b', o' + k * 5, none⟩)) (i := 7) rfl (by kernel_rfl) (by kernel_rfl) (by kernel_rfl) (fun _ _ _ h => h) (Or.inl ⟨by rfl, by (intro w' hSw; go_simp; try with_reducible rfl)⟩) rfl (by assumption) ?_; simp only [lset]
            refine take_s (v := .agg (celX x)) (i := 8) rfl (by kernel_rfl) (by kernel_rfl) (by kernel_rfl) (fun _ _ _ h => h) (Or.inl ⟨by rfl, by (intro w' hSw; exact ldA_run hSw.2.2.ld rfl rfl)⟩) rfl (by assumption) ?_; simp only [lset]
            refine call_s (i := 9) (by kernel_rfl) rfl rfl (by rfl) (fun K hK => ?_)
            go_simp
            refine (C1.out _).mono ?_
            rintro e w2 ⟨rfl, b2⟩
            have B2 := Lib.hid (HW.out.trans (((Below.refl _ _).drew.trans b2).mono HW.out.size))
            have hHeld2 := And.intro ((World.cell?_of_block (b2.block _ HL.out.2.2)).trans CW.out) (And.intro (CA.out.on ((Below.refl _ _).drew.trans b2) HL.out.1) (CB.out.on ((Below.refl _ _).drew.trans b2) HL.out.2.1))
            refine hK.out _ _ hHeld2 ?_; clear hK K hHeld b2 C1 CA CB CW HL HW; simp only [lset]
            refine take_s (i := 10) rfl (by kernel_rfl) (by kernel_rfl) (by kernel_rfl) (fun _ _ _ h => h) (Or.inl ⟨by rfl, by (intro w' hSw; go_simp; try with_reducible rfl)⟩) rfl (by assumption) ?_; simp only [lset]
            refine wpAnyH_done (by kernel_rfl) ?_ _
            go_wp2_with fail
            go_roundw
            case rel => exact ⟨k + 1, by go_num, Lib.hid (by have := HKN.out; omega), B2⟩
            case measure => have := HKN.out; simp [intOf]; omega
          · skip
            have t1 : decide ((k : Int) < (lc.length : Int)) = false := decide_eq_false (by omega)
            have t2 : ¬ ((k : Int) < (lc.length : Int)) := by omega
            clear hkn
            go_wp2_with fail
            refine (C3.out _).mono ?_
            rintro e w3 ⟨rfl, b3⟩
            have B3 := Lib.hid (B17.out.trans ((HW.out.trans (b3.mono HW.out.size)).mono B17.out.size))
            go_wp2
            go_ret
            exact ⟨rfl, B3.out⟩
      · skip
        clear HEL HKE
        go_upto_region 19 with fail
        clear c14 E14
        have hg15 : W13.alloc (.cells (zD) 63) = W13.alloc (.cells (celD (outK 4) (outV 4 ve) ⟨#[]⟩) 63) := rfl
        rw [hg15]
        clear hg15
        obtain ⟨rk, hrk⟩ : ∃ rk, outK 4 = rk := ⟨_, rfl⟩
        obtain ⟨rv, hrv⟩ : ∃ rv, outV 4 ve = rv := ⟨_, rfl⟩
        rw [hrk, hrv] at KR ⊢
        clear hrk hrv
        have bE := below_a1 W13 (.cells (celD rk rv ⟨#[]⟩) 63)
        have ks := new1 W13 (celD rk rv ⟨#[]⟩) 63
        obtain ⟨W15, hW15⟩ : ∃ W15, W13.alloc (.cells (celD rk rv ⟨#[]⟩) 63) = W15 := ⟨_, rfl⟩
        rw [hW15] at bE ks ⊢
        have hS := S13.out
        have kmc : W15.cell? ⟨wb + 1, 0, none⟩ = some (.int .i64 1) := (cell_of_row _ _ 0 _ _ _ ((bE.block _ (by omega)).trans KM13.out)).trans rfl
        have kw15 := (bE.block _ (show wb < W13.heap.size by omega)).trans KW13.out
        have kfc : W15.cell? ⟨wb, 0, none⟩ = some (.int .i64 0) := (cell_of_row _ _ 0 _ _ _ kw15).trans rfl
        have kac : W15.cell? ⟨wb, 6, none⟩ = some (.slice A9 lc.length c9) := (cell_of_row _ _ 6 _ _ _ kw15).trans rfl
        have KW := Lib.hid kw15
        have KF := Lib.hid ((bE.block _ (show w.heap.size + 1 < W13.heap.size by omega)).trans F13.out)
        have KR15 := Lib.hid ((bE.block _ (show W12.heap.size < W13.heap.size by omega)).trans KR.out)
        have KS := Lib.hid ks
        have V9e := Lib.hid (V9.out.on (bE.mono (show W12.heap.size ≤ W13.heap.size by omega)))
        have V7e := Lib.hid (V7.out.on (bE.mono (show W12.heap.size ≤ W13.heap.size by omega)))
        have B15 := Lib.hid (B13.out.trans (bE.mono B13.out.size))
        have S15 := Lib.hid (show wb + 1 < W15.heap.size ∧ w.heap.size ≤ W15.heap.size ∧ w.heap.size + 1 < W15.heap.size ∧ W12.heap.size < W15.heap.size ∧ W13.heap.size < W15.heap.size from by
          have h1 := bE.size
          have h2 := (Array.getElem?_eq_some_iff.1 ks).1
          exact ⟨by omega, by omega, by omega, by omega, h2⟩)
        have C1 := Lib.hid (fun W => fBits_any v1 v1 W)
        rw [bits_self] at C1
        have C2 := Lib.hid (fun W => same_self rk rv ⟨#[]⟩ W)
        have C3 := Lib.hid (fun W => awake_any W)
        clear bE ks hS kw15 hW15 E13 F13 KM13 KW13 V9 V7 B13 KR S13
        go_wp2_with (first | refine ldP (k := 80) (ldSegW KW.out) rfl (by kernel_rfl) rfl rfl ?_ | refine ldP (k := 81) (run_loadVar_row _ (w.heap.size + 1) 57 57 _ (0, 0) _ KF.out Tryz.underlying57 rfl (by kernel_rfl)) rfl (by kernel_rfl) rfl rfl ?_)
        refine (C1.out _).mono ?_
        rintro e W16 ⟨rfl, b16⟩
        have hS := S15.out
        have kw16 := (b16.block _ (show wb < W15.heap.size by omega)).trans KW.out
        have kad : W16.cell? ⟨wb, 6, none⟩ = some (.slice A9 lc.length c9) := (cell_of_row _ _ 6 _ _ _ kw16).trans rfl
        have KW6 := Lib.hid kw16
        have KR6 := Lib.hid ((b16.block _ (show W12.heap.size < W15.heap.size by omega)).trans KR15.out)
        have KS6 := Lib.hid ((b16.block _ (show W13.heap.size < W15.heap.size by omega)).trans KS.out)
        have B16 := Lib.hid (B15.out.trans (b16.mono B15.out.size))
        have V9f := Lib.hid (V9e.out.on (b16.mono (by omega)))
        have V7f := Lib.hid (V7e.out.on (b16.mono (by omega)))
        have S16 := Lib.hid (show wb < W16.heap.size by have := b16.size; omega)
        have D16 := Lib.hid (show W12.heap.size < W16.heap.size by have := b16.size; omega)
        clear b16 hS kw16 kmc kfc kac KW KF KR15 KS B15 V9e V7e S15 C1
        go_wp2_with (first | refine ldP (k := 94) (run_loadVar_row _ W12.heap.size 63 63 _ (0, 0) _ KR6.out Tryz.underlying63 rfl (by kernel_rfl)) rfl (by kernel_rfl) rfl rfl ?_ | refine ldP (k := 95) (run_loadVar_row _ W13.heap.size 63 63 _ (0, 0) _ KS6.out Tryz.underlying63 rfl (by kernel_rfl)) rfl (by kernel_rfl) rfl rfl ?_)
        refine (C2.out _).mono ?_
        rintro e W17 ⟨rfl, b17⟩
        have KW7 := Lib.hid ((b17.block _ S16.out).trans KW6.out)
        have B17 := Lib.hid (B16.out.trans (b17.mono B16.out.size))
        have V9g := Lib.hid ((V9f.out.on (b17.mono (Nat.le_of_lt D16.out))))
        have V7g := Lib.hid ((V7f.out.on (b17.mono (Nat.le_of_lt D16.out))))
        have S17 := Lib.hid (show wb < W17.heap.size ∧ W12.heap.size ≤ W17.heap.size by have := b17.size; have := S16.out; have := D16.out; omega)
        clear b17 kad KR6 KS6 B16 V9f V7f S16 D16 KW6 C2
        go_wp2_with fail
        go_loopw [16] (fun v16 wr => ∃ k : Nat, v16 = .int .i64 (k : Nat) ∧ Hid (k ≤ lc.length) ∧ Hid (Below W17.heap.size W17 wr)) (fun v16 _ => ((lc.length : Int) - intOf v16).toNat)
        case atStart => exact ⟨0, rfl, Lib.hid (Nat.zero_le _), Lib.hid (Below.refl _ _)⟩
        case round =>
          obtain ⟨k, rfl, HK, HW⟩ := hrel
          by_cases hkn : k < lc.length
          · skip
            have hm' := HSZ2.out.1
            have t1 : decide ((k : Int) < (lc.length : Int)) = true := decide_eq_true (by omega)
            have t2 : (k : Int) < (lc.length : Int) := by omega
            have t3 : (0 : Int) ≤ (k : Int) := by omega
            have k1 : IntKind.i64.wrap ((k : Int) + 1) = ((k + 1 : Nat) : Int) := by rw [IntWalk.i64_in _ (by omega)]; omega
            obtain ⟨x, hx⟩ : ∃ x, lc[k]? = some x := ⟨_, List.getElem?_eq_getElem hkn⟩
            obtain ⟨b, o, hA, hbl, hat⟩ := V9g.out.at' (by rintro rfl; simp at hkn)
            obtain ⟨b', o', hA', hbl', hat'⟩ := V7g.out.at' (by rintro rfl; simp at hkn)
            subst hA
            subst hA'
            have hS := S17.out
            have CA := Lib.hid ((hat k x hx).on HW.out (by omega))
            have CB := Lib.hid ((hat' k x hx).on HW.out (by omega))
            have CW := Lib.hid ((cell_of_row _ _ 6 _ _ _ ((HW.out.block _ hS.1).trans KW7.out)).trans (show (celE 0 v1 (.slice (some ⟨b, o, none⟩) lc.length c9))[6]? = some (.slice (some ⟨b, o, none⟩) lc.length c9) from rfl))
            have HL := Lib.hid (show b < wr.heap.size ∧ b' < wr.heap.size ∧ wb < wr.heap.size by have := HW.out.size; omega)
            have HKN := Lib.hid hkn
            have C1 := Lib.hid (fun W => fBits_any x x W)
            rw [bits_self] at C1
            clear hx hkn hm' hat hat' hbl hbl' hS
            go_upto_region 24 with fail
            refine wp_region_held_drew (S := fun W => W.cell? ⟨wb, 6, none⟩ = some (.slice (some ⟨b, o, none⟩) lc.length c9) ∧ CelAt W b (o + k * 5) x ∧ CelAt W b' (o' + k * 5) x) (by kernel_rfl) ⟨CW.out, CA.out.on (Below.refl _ _).drew HL.out.1, CB.out.on (Below.refl _ _).drew HL.out.2.1⟩ (fun hHeld => ?_)
            refine take_s (i := 0) rfl (by kernel_rfl) (by kernel_rfl) (by kernel_rfl) (fun _ _ _ h => h) (Or.inl ⟨by rfl, by (intro w' hSw; go_simp; try with_reducible rfl)⟩) rfl (by assumption) ?_; simp only [lset]
            refine take_s (v := .slice (some ⟨b, o, none⟩) lc.length c9) (i := 1) rfl (by kernel_rfl) (by kernel_rfl) (by kernel_rfl) (fun _ _ _ h => h) (Or.inl ⟨by rfl, by (intro w' hSw; have c := hSw.1; go_simp)⟩) rfl (by assumption) ?_; simp only [lset]
            refine take_s (i := 2) rfl (by kernel_rfl) (by kernel_rfl) (by kernel_rfl) (fun _ _ _ h => h) (Or.inl ⟨by rfl, by (intro w' hSw; go_simp; try with_reducible rfl)⟩) rfl (by assumption) ?_; simp only [lset]
            refine take_s (v := .pointer (some ⟨b, o + k * 5, none⟩)) (i := 3) rfl (by kernel_rfl) (by kernel_rfl) (by kernel_rfl) (fun _ _ _ h => h) (Or.inl ⟨by rfl, by (intro w' hSw; go_simp; try with_reducible rfl)⟩) rfl (by assumption) ?_; simp only [lset]
            refine take_s (v := .agg (celX x)) (i := 4) rfl (by kernel_rfl) (by kernel_rfl) (by kernel_rfl) (fun _ _ _ h => h) (Or.inl ⟨by rfl, by (intro w' hSw; exact ldA_run hSw.2.1.ld rfl rfl)⟩) rfl (by assumption) ?_; simp only [lset]
            refine take_s (i := 5) rfl (by kernel_rfl) (by kernel_rfl) (by kernel_rfl) (fun _ _ _ h => h) (Or.inl ⟨by rfl, by (intro w' hSw; go_simp; try with_reducible rfl)⟩) rfl (by assumption) ?_; simp only [lset]
            refine take_s (i := 6) rfl (by kernel_rfl) (by kernel_rfl) (by kernel_rfl) (fun _ _ _ h => h) (Or.inl ⟨by rfl, by (intro w' hSw; go_simp; try with_reducible rfl)⟩) rfl (by assumption) ?_; simp only [lset]
            refine take_s (v := .pointer (some ⟨b', o' + k * 5, none⟩)) (i := 7) rfl (by kernel_rfl) (by kernel_rfl) (by kernel_rfl) (fun _ _ _ h => h) (Or.inl ⟨by rfl, by (intro w' hSw; go_simp; try with_reducible rfl)⟩) rfl (by assumption) ?_; simp only [lset]
            refine take_s (v := .agg (celX x)) (i := 8) rfl (by kernel_rfl) (by kernel_rfl) (by kernel_rfl) (fun _ _ _ h => h) (Or.inl ⟨by rfl, by (intro w' hSw; exact ldA_run hSw.2.2.ld rfl rfl)⟩) rfl (by assumption) ?_; simp only [lset]
            refine call_s (i := 9) (by kernel_rfl) rfl rfl (by rfl) (fun K hK => ?_)
            go_simp
            refine (C1.out _).mono ?_
            rintro e w2 ⟨rfl, b2⟩
            have B2 := Lib.hid (HW.out.trans (((Below.refl _ _).drew.trans b2).mono HW.out.size))
            have hHeld2 := And.intro ((World.cell?_of_block (b2.block _ HL.out.2.2)).trans CW.out) (And.intro (CA.out.on ((Below.refl _ _).drew.trans b2) HL.out.1) (CB.out.on ((Below.refl _ _).drew.trans b2) HL.out.2.1))
            refine hK.out _ _ hHeld2 ?_; clear hK K hHeld b2 C1 CA CB CW HL HW; simp only [lset]
            refine take_s (i := 10) rfl (by kernel_rfl) (by kernel_rfl) (by kernel_rfl) (fun _ _ _ h => h) (Or.inl ⟨by rfl, by (intro w' hSw; go_simp; try with_reducible rfl)⟩) rfl (by assumption) ?_; simp only [lset]
            refine wpAnyH_done (by kernel_rfl) ?_ _
            go_wp2_with fail
            go_roundw
            case rel => exact ⟨k + 1, by go_num, Lib.hid (by have := HKN.out; omega), B2⟩
            case measure => have := HKN.out; simp [intOf]; omega
          · skip
            have t1 : decide ((k : Int) < (lc.length : Int)) = false := decide_eq_false (by omega)
            have t2 : ¬ ((k : Int) < (lc.length : Int)) := by omega
            clear hkn
            go_wp2_with fail
            refine (C3.out _).mono ?_
            rintro e w3 ⟨rfl, b3⟩
            have B3 := Lib.hid (B17.out.trans ((HW.out.trans (b3.mono HW.out.size)).mono B17.out.size))
            go_wp2
            go_ret
            exact ⟨rfl, B3.out⟩
  · skip
    refine wp_val (v := .agg (celX v0)) (ldRow_run (run_loadVar_row _ (w.heap.size + 1) 57 57 (celX v0) (0, 0) _ N1.out Tryz.underlying57 rfl (by kernel_rfl)) rfl rfl) ?_
    refine hK.out _ _ trivial ?_; clear hK K; simp only [lset]
    refine call_s (i := 0) (by kernel_rfl) rfl rfl (by rfl) (fun K hK => ?_)
    refine wp_val (v := .agg (celD k v s)) (ldRow_run (run_loadVar_row _ w.heap.size 63 63 (celD k v s) (0, 0) _ N0.out Tryz.underlying63 rfl (by kernel_rfl)) rfl rfl) ?_
    refine hK.out _ _ trivial ?_; clear hK K; simp only [lset]
    refine call_s (i := 1) (by kernel_rfl) rfl rfl (by rfl) (fun K hK => ?_)
    go_simp
    refine (CD.out W2.drew).mono ?_
    rintro e W3 ⟨rfl, b3⟩
    refine hK.out _ _ trivial ?_; clear hK K CD; simp only [lset]
    have R0 := Lib.hid ((b3.block _ (show w.heap.size < W2.heap.size by have := HM.out; have := P2.out.lt; omega)).trans (show W2.drew.heap[w.heap.size]? = _ from N0.out))
    have R1 := Lib.hid ((b3.block _ (show w.heap.size + 1 < W2.heap.size by have := HM.out; have := P2.out.lt; omega)).trans (show W2.drew.heap[w.heap.size + 1]? = _ from N1.out))
    have B3 := Lib.hid ((Below.refl W2.heap.size W2).drew.trans b3)
    clear b3 N0 N1
    refine call_s (i := 3) (by kernel_rfl) rfl rfl (by rfl) (fun K hK => ?_)
    go_simp
    refine (CC.out W3).mono ?_
    rintro e W4 ⟨rfl, b4⟩
    refine hK.out _ _ trivial ?_; clear hK K CC; simp only [lset]
    have B4 := Lib.hid (B3.out.trans (b4.mono B3.out.size))
    have HW4 := Lib.hid B4.out.size
    refine call_s (i := 5) (by kernel_rfl) rfl rfl (by rfl) (fun K hK => ?_)
    go_simp
    refine (CA.out W4 B4.out).mono ?_
    rintro e W5 ⟨⟨sl, rfl, ho5⟩, b5⟩
    refine hK.out _ _ trivial ?_; clear hK K CA; simp only [lset]
    have B5 := Lib.hid (B4.out.trans (b5.mono B4.out.size))
    have r0 := (b5.block _ (Nat.lt_of_lt_of_le (Array.getElem?_eq_some_iff.1 R0.out).1 b4.size)).trans ((b4.block _ (Array.getElem?_eq_some_iff.1 R0.out).1).trans R0.out)
    have r1 := (b5.block _ (Nat.lt_of_lt_of_le (Array.getElem?_eq_some_iff.1 R1.out).1 b4.size)).trans ((b4.block _ (Array.getElem?_eq_some_iff.1 R1.out).1).trans R1.out)
    clear b4 b5 B3 B4 R0 R1
    refine step_n (i := 6) (by kernel_rfl) rfl rfl (by rfl) (fun K hK => ?_)
    refine wp_store_row 63 _ _ rfl w.heap.size _ rfl rfl 63 _ r0 (by kernel_rfl) rfl (by kernel_rfl) ?_
    refine hK.out undef _ trivial ?_; clear hK K
    have q1 := (setRow_other W5 w.heap.size (w.heap.size + 1) (celD ke ve se) (by omega)).trans r1
    refine step_n (i := 7) (by kernel_rfl) rfl rfl (by rfl) (fun K hK => ?_)
    refine wp_store_row 57 _ _ rfl (w.heap.size + 1) _ rfl rfl 57 _ q1 (by kernel_rfl) rfl (by kernel_rfl) ?_
    refine hK.out undef _ trivial ?_; clear hK K
    refine take_s (i := 8) rfl (by kernel_rfl) (by kernel_rfl) (by kernel_rfl) (fun _ _ _ h => h) (Or.inl ⟨by rfl, by (intro w' hSw; go_simp; try with_reducible rfl)⟩) rfl (by assumption) ?_; simp only [lset]
    refine wpAnyH_done (by kernel_rfl) ?_ _
    clear hHeld
    have hmN := HM.out
    have e0 : ((W5.setRow w.heap.size (celD ke ve se)).setRow (w.heap.size + 1) (celX v1)).heap[w.heap.size]? = some (.cells (celD ke ve se) 63 (0, 0)) := (setRow_other _ _ _ _ (by omega)).trans (setRow_heap _ _ _ _ _ _ r0)
    have e1 : ((W5.setRow w.heap.size (celD ke ve se)).setRow (w.heap.size + 1) (celX v1)).heap[w.heap.size + 1]? = some (.cells (celX v1) 57 (0, 0)) := setRow_heap _ _ _ _ _ _ q1
    have m6 := ((M2.out.on B5.out).ey (ey_row W5 w.heap.size (celD ke ve se)) (by omega)).ey (ey_row _ (w.heap.size + 1) (celX v1)) (by omega)
    have p6 := ((P2.out.on B5.out).kp (ey_row W5 w.heap.size (celD ke ve se)) (by omega) (fun c fz e => by rw [r0] at e; cases e)).kp (ey_row _ (w.heap.size + 1) (celX v1)) (by omega) (fun c fz e => by rw [q1] at e; cases e)
    have b6 : Below w.heap.size w ((W5.setRow w.heap.size (celD ke ve se)).setRow (w.heap.size + 1) (celX v1)) := below_setRowK (below_setRowK (B2.out.trans (B5.out.mono B2.out.size)) (Nat.le_refl _) _) (Nat.le_succ _) _
    obtain ⟨lc, hlc⟩ : ∃ lc, l.map clnV = lc := ⟨_, rfl⟩
    have hll : l.length = lc.length := by rw [← hlc, List.length_map]
    have o6 : ((W5.setRow w.heap.size (celD ke ve se)).setRow (w.heap.size + 1) (celX v1)).ownsRow (w.heap.size + 2) 57 5 sl lc.length (flatV lc) := by
      have h4 : w.heap.size + 2 ≤ W4.heap.size := Nat.le_trans (show w.heap.size + 2 ≤ W2.heap.size by have := P2.out.lt; omega) HW4.out
      rw [hlc, hll] at ho5
      refine ⟨ho5.1, ?_⟩
      rcases ho5.2 with hn | ⟨g, cap, cur, e, hbg, hg, rest⟩
      · exact .inl hn
      · exact .inr ⟨g, cap, cur, e, by omega, (setRow_other _ _ _ _ (by omega)).trans ((setRow_other _ _ _ _ (by omega)).trans hg), rest⟩
    obtain ⟨W6, hW6⟩ : ∃ W6, (W5.setRow w.heap.size (celD ke ve se)).setRow (w.heap.size + 1) (celX v1) = W6 := ⟨_, rfl⟩
    rw [hW6] at e0 e1 m6 p6 b6 o6 ⊢
    have HSZ2 := Lib.hid (show lc.length ≤ 4194304 ∧ ∀ v ∈ lc, v.vs.size ≤ maxLen from ⟨by rw [← hll]; exact HSZ.out.1, by
      intro x hx
      rw [← hlc, List.mem_map] at hx
      obtain ⟨y, hy, rfl⟩ := hx
      exact clnV_size (HSZ.out.2 y hy)⟩)
    obtain ⟨A6, c6, rfl, -⟩ := vals_own o6 HSZ2.out.1 HSZ2.out.2
    have O6 := Lib.hid o6
    have E0 := Lib.hid e0
    have E1 := Lib.hid e1
    have M6 := Lib.hid m6
    have P6 := Lib.hid p6
    have B6 := Lib.hid b6
    have C6 := Lib.hid (alloc_m (y := obB) m6 rfl (by show m ≠ hb; omega) p6 (by decide) mayB1)
    clear hmN e0 e1 m6 p6 b6 o6 hW6 hlc hll ho5 r0 r1 q1 M2 P2 B2 B5 HW4
    go_wp2_with fail
    refine C6.out.mono ?_
    rintro e W7 ⟨t, rfl, m7, p7, t7, -, k7⟩
    have hmN := HM.out
    have e7 := k7.oth _ _ E0.out (fun e => by have := Option.some.inj e; show False; have : w.heap.size = hb := this; omega) (by intro c fz e; cases e)
    have f7 := k7.oth _ _ E1.out (fun e => by have := Option.some.inj e; have : w.heap.size + 1 = hb := this; omega) (by intro c fz e; cases e)
    have b7 : Below w.heap.size w W7 := B6.out.trans (k7.b.mono (show w.heap.size ≤ hb by omega))
    have o7 : W7.ownsRow (w.heap.size + 2) 57 5 (.slice A6 lc.length c6) lc.length (flatV lc) := by
      refine ⟨O6.out.1, ?_⟩
      rcases O6.out.2 with hn | ⟨g, cap, cur, e, hbg, hg, rest⟩
      · exact .inl hn
      · exact .inr ⟨g, cap, cur, e, hbg, (k7.oth _ _ hg (fun e => HpNe P6.out hg (by decide) (Option.some.inj e)) (by intro c fz e; cases e)).trans rfl, rest⟩
    go_upto_region 7 with fail
    have bA := below_a2 W7 (.cells zD 63) (.cells #[.int .i64 5, .bool false, .float .f64 0, .string ⟨#[]⟩, .int .i64 0] 57)
    have kf : ((W7.alloc (.cells zD 63)).alloc (.cells #[.int .i64 5, .bool false, .float .f64 0, .string ⟨#[]⟩, .int .i64 0] 57)).heap[W7.heap.size + 1]? = some (.cells #[.int .i64 5, .bool false, .float .f64 0, .string ⟨#[]⟩, .int .i64 0] 57 (0, 0)) := by
      have := new1 (W7.alloc (.cells zD 63)) #[.int .i64 5, .bool false, .float .f64 0, .string ⟨#[]⟩, .int .i64 0] 57
      simpa using this
    obtain ⟨W8, hW8⟩ : ∃ W8, (W7.alloc (.cells zD 63)).alloc (.cells #[.int .i64 5, .bool false, .float .f64 0, .string ⟨#[]⟩, .int .i64 0] 57) = W8 := ⟨_, rfl⟩
    rw [hW8] at bA kf ⊢
    have E8 := Lib.hid ((bA.block _ (Array.getElem?_eq_some_iff.1 e7).1).trans e7)
    have F8 := Lib.hid ((bA.block _ (Array.getElem?_eq_some_iff.1 f7).1).trans f7)
    have B8 := Lib.hid (b7.trans (bA.mono b7.size))
    have S8 := Lib.hid (show W7.heap.size ≤ W8.heap.size from bA.size)
    have MB8 := Lib.hid (show MB W8 m t (mx0 100 100 100 10 hb dr) 100 1 from ⟨m7.on bA, rfl, p7.on bA, t7.on bA, ⟨rfl, rfl, rfl, by show (1 : Int) ≤ 100; decide, by show (100 : Int) ≤ 1000; decide⟩⟩)
    have KF := Lib.hid (show W8.heap[W7.heap.size + 1]? = some (.cells (celX (vObj 0)) 57 (0, 0)) from kf)
    have O8 := Lib.hid (show W8.ownsRow (w.heap.size + 2) 57 5 (.slice A6 lc.length c6) lc.length (flatV lc) by
      refine ⟨o7.1, ?_⟩
      rcases o7.2 with hn | ⟨g, cap, cur, e, hbg, hg, rest⟩
      · exact .inl hn
      · exact .inr ⟨g, cap, cur, e, hbg, (bA.block _ (Array.getElem?_eq_some_iff.1 hg).1).trans hg, rest⟩)
    obtain ⟨A7, c7, hA7, v8⟩ := vals_own O8.out HSZ2.out.1 HSZ2.out.2
    cases hA7
    have V8 := Lib.hid v8
    have C8 := Lib.hid (call_b0 (v0 := v1) MB8.out rfl v8)
    clear C6 hmN e7 f7 b7 o7 bA kf m7 p7 t7 k7 v8 hW8 E0 E1 M6 P6 B6 O6
    go_wp2_with (first | refine ldP (k := 43) (run_loadVar_row _ (W7.heap.size + 1) 57 57 _ (0, 0) _ KF.out Tryz.underlying57 rfl (by kernel_rfl)) rfl (by kernel_rfl) rfl rfl ?_ | refine ldP (k := 44) (run_loadVar_row _ (w.heap.size + 1) 57 57 _ (0, 0) _ F8.out Tryz.underlying57 rfl (by kernel_rfl)) rfl (by kernel_rfl) rfl rfl ?_)
    refine C8.out.mono ?_
    rintro e W9 ⟨k9, v9, s9, x9, rfl, ⟨rfl, rfl, rfl, rfl⟩, m9, z9⟩
    have hmN := HM.out
    have hz9 : ∀ (j : Nat) (c : Array Value) (ty : TypeId) (fz : Nat × Nat), W8.heap[j]? = some (.cells c ty fz) → ty ≠ 91 → W9.heap[j]? = W8.heap[j]? := fun j c ty fz hj ht => z9.block _ (Array.getElem?_eq_some_iff.1 hj).1 (fun (e : j = m) => by rw [e, show W8.heap[m]? = _ from MB8.out.M] at hj; cases hj; exact ht rfl)
    have E9 := Lib.hid ((hz9 _ _ _ _ E8.out (by decide)).trans E8.out)
    have F9 := Lib.hid ((hz9 _ _ _ _ F8.out (by decide)).trans F8.out)
    have KF9 := Lib.hid ((hz9 _ _ _ _ KF.out (by decide)).trans KF.out)
    have B9 := Lib.hid (B8.out.trans (z9.below B8.out.size (fun i (e : i = m) => by omega)))
    have p9 := MB8.out.P.ez z9 (fun j c ty fz hj ht (e : j = m) => by rw [e, show W8.heap[m]? = _ from MB8.out.M] at hj; cases hj; rcases ht with h | h <;> exact absurd h (by decide))
    have t9 := MB8.out.T.ez z9 (fun (e : t = m) => by obtain ⟨q, ht⟩ := MB8.out.T; rw [e, show W8.heap[m]? = _ from MB8.out.M] at ht; cases ht)
    have MB9 := Lib.hid (show MB W9 m t _ 100 1 from ⟨m9, rfl, p9, t9, ⟨rfl, rfl, rfl, by show (1 : Int) ≤ 100 - 1; decide, by show (100 : Int) - 1 ≤ 1000; decide⟩⟩)
    have o9 : W9.ownsRow (w.heap.size + 2) 57 5 (.slice A6 lc.length c6) lc.length (flatV lc) := by
      refine ⟨O8.out.1, ?_⟩
      rcases O8.out.2 with hn | ⟨g, cap, cur, e, hbg, hg, rest⟩
      · exact .inl hn
      · exact .inr ⟨g, cap, cur, e, hbg, (hz9 _ _ _ _ hg (by decide)).trans hg, rest⟩
    have O9 := Lib.hid o9
    have S9 := Lib.hid (show W7.heap.size + 1 < W9.heap.size from (Array.getElem?_eq_some_iff.1 KF9.out).1)
    clear C8 hmN hz9 m9 z9 p9 t9 o9 E8 F8 KF B8 MB8 V8 O8 S8
    go_upto_region 10 with fail
    have bB := below_a2 W9 (.cells (celE 0 valU (.slice none 0 0)) 61) (.cells #[.int .i64 0] 3)
    have kw : ((W9.alloc (.cells (celE 0 valU (.slice none 0 0)) 61)).alloc (.cells #[.int .i64 0] 3)).heap[W9.heap.size]? = some (.cells (celE 0 valU (.slice none 0 0)) 61 (0, 0)) := ((below_a1 _ _).block _ (by simp)).trans (new1 W9 _ _)
    have km : ((W9.alloc (.cells (celE 0 valU (.slice none 0 0)) 61)).alloc (.cells #[.int .i64 0] 3)).heap[W9.heap.size + 1]? = some (.cells #[.int .i64 0] 3 (0, 0)) := by
      have := new1 (W9.alloc (.cells (celE 0 valU (.slice none 0 0)) 61)) #[.int .i64 0] 3
      simpa using this
    obtain ⟨W10, hW10⟩ : ∃ W10, (W9.alloc (.cells (celE 0 valU (.slice none 0 0)) 61)).alloc (.cells #[.int .i64 0] 3) = W10 := ⟨_, rfl⟩
    have hg10 : (W9.alloc (.cells #[.int .i64 0, .int .i64 0, .bool false, .float .f64 0, .string ⟨#[]⟩, .int .i64 0, .slice none 0 0, .bool false] 61)).alloc (.cells #[.int .i64 0] 3) = W10 := hW10
    rw [hg10]
    rw [hW10] at bB kw km
    have s9 := S9.out
    have d9 : W9.heap.size + 1 < W10.heap.size := (Array.getElem?_eq_some_iff.1 km).1
    have E10 := (bB.block _ (Array.getElem?_eq_some_iff.1 E9.out).1).trans E9.out
    have F10 := (bB.block _ (Array.getElem?_eq_some_iff.1 F9.out).1).trans F9.out
    have KF10 := (bB.block _ (Array.getElem?_eq_some_iff.1 KF9.out).1).trans KF9.out
    have MB10 := MB9.out.on bB
    have C10 := Lib.hid (setBody_m (F := .func 29) (caps := #[.pointer (some ⟨W9.heap.size, 0, none⟩), .pointer (some ⟨W9.heap.size + 1, 0, none⟩), .pointer (some ⟨w.heap.size, 0, none⟩)]) MB10.M rfl)
    obtain ⟨wb, hwb⟩ : ∃ wb, W9.heap.size = wb := ⟨_, rfl⟩
    have b10 : Below w.heap.size w W10 := B9.out.trans (bB.mono B9.out.size)
    have hml : m < wb := by rw [← hwb]; exact MB9.out.M.lt
    rw [hwb] at kw km C10 d9 s9
    rw [hwb]
    have X10 := Lib.hid (And.intro E10 (And.intro F10 (And.intro KF10 (And.intro MB10 (And.intro kw (And.intro km (And.intro b10 (And.intro hml (And.intro s9 d9)))))))))
    have O10 := Lib.hid (show W10.ownsRow (w.heap.size + 2) 57 5 (.slice A6 lc.length c6) lc.length (flatV lc) by
      refine ⟨O9.out.1, ?_⟩
      rcases O9.out.2 with hn | ⟨g, cap, cur, e, hbg, hg, rest⟩
      · exact .inl hn
      · exact .inr ⟨g, cap, cur, e, hbg, (bB.block _ (Array.getElem?_eq_some_iff.1 hg).1).trans hg, rest⟩)
    clear E10 F10 KF10 MB10 kw km b10 hml s9 d9 bB hW10 hg10 hwb E9 F9 KF9 B9 MB9 O9 S9
    go_wp2_with fail
    refine C10.out.mono ?_
    rintro e W11 ⟨rfl, m11, y11⟩
    obtain ⟨e10, f10, kf10, mb10, kw, km, b10, hml, s9, d9⟩ := X10.out
    have hy : ∀ (j : Nat) (c : Array Value) (ty : TypeId) (fz : Nat × Nat), W10.heap[j]? = some (.cells c ty fz) → ty ≠ 91 → W11.heap[j]? = W10.heap[j]? := fun j c ty fz hj ht => y11.block _ (Array.getElem?_eq_some_iff.1 hj).1 (fun e => by rw [e, show W10.heap[m]? = _ from mb10.M] at hj; cases hj; exact ht rfl)
    have E11 := Lib.hid ((hy _ _ _ _ e10 (by decide)).trans e10)
    have F11 := Lib.hid ((hy _ _ _ _ f10 (by decide)).trans f10)
    have KF11 := Lib.hid ((hy _ _ _ _ kf10 (by decide)).trans kf10)
    have kw11 := (hy _ _ _ _ kw (by decide)).trans kw
    have km11 := (hy _ _ _ _ km (by decide)).trans km
    have B11 := Lib.hid (b10.trans (y11.below b10.size (by have := HM.out; omega)))
    have t11 : HobE W11 t obB (.slice none 0 0) (.slice none 0 0) := by
      obtain ⟨q, ht⟩ := mb10.T
      exact ⟨q, (hy _ _ _ _ ht (by decide)).trans ht⟩
    have MB11 := Lib.hid (show MB W11 m t _ 100 1 from ⟨m11, rfl, mb10.P.mc mb10.M y11 (by show m ≠ hb; have := HM.out; omega), t11, ⟨rfl, rfl, rfl, by show (1 : Int) ≤ 100 - 1; decide, by show (100 : Int) - 1 ≤ 1000; decide⟩⟩)
    have BB11 := Lib.hid (show BB W11 m wb (wb + 1) w.heap.size ke ve se from ⟨⟨_, kw11, rfl⟩, km11, E11.out⟩)
    have O11 := Lib.hid (show W11.ownsRow (w.heap.size + 2) 57 5 (.slice A6 lc.length c6) lc.length (flatV lc) by
      refine ⟨O10.out.1, ?_⟩
      rcases O10.out.2 with hn | ⟨g, cap, cur, e, hbg, hg, rest⟩
      · exact .inl hn
      · exact .inr ⟨g, cap, cur, e, hbg, (hy _ _ _ _ hg (by decide)).trans hg, rest⟩)
    obtain ⟨A11, c11, hA11, v11⟩ := vals_own O11.out HSZ2.out.1 HSZ2.out.2
    cases hA11
    have C11 := Lib.hid (call_b1 (v0 := v1) MB11.out rfl BB11.out HKE.out v11)
    have HWB := Lib.hid (And.intro hml (show wb + 1 < W11.heap.size from Nat.lt_of_lt_of_le d9 y11.size))
    clear C10 e10 f10 kf10 mb10 kw km b10 hml s9 d9 hy kw11 km11 t11 v11 m11 y11 X10 O10
    go_wp2_with (first | refine ldP (k := 54) (run_loadVar_row _ (W7.heap.size + 1) 57 57 _ (0, 0) _ KF11.out Tryz.underlying57 rfl (by kernel_rfl)) rfl (by kernel_rfl) rfl rfl ?_ | refine ldP (k := 55) (run_loadVar_row _ (w.heap.size + 1) 57 57 _ (0, 0) _ F11.out Tryz.underlying57 rfl (by kernel_rfl)) rfl (by kernel_rfl) rfl rfl ?_)
    refine C11.out.mono ?_
    rintro e W12 ⟨k12, v12, s12, x12, rfl, ⟨⟨rfl, rfl, rfl⟩, km12, sl, kw12, rb12⟩, m12, z12⟩
    have hN := HM.out
    have hB := HWB.out
    have b12 : Below w.heap.size w W12 := B11.out.trans (z12.below B11.out.size (fun i hi => by rcases hi with h | h | h <;> omega))
    have hz12 : ∀ (j : Nat), j < W11.heap.size → j ≠ m → j ≠ wb → j ≠ wb + 1 → W12.heap[j]? = W11.heap[j]? := fun j hj h1 h2 h3 => z12.block _ hj (fun hi => by (rcases hi with h | h | h) <;> omega)
    have e12 := (hz12 _ (by omega) (by omega) (by omega) (by omega)).trans E11.out
    have f12 := (hz12 _ (by omega) (by omega) (by omega) (by omega)).trans F11.out
    have s12 : W11.heap.size ≤ W12.heap.size := z12.size
    have o12 : W12.ownsRow (w.heap.size + 2) 57 5 (.slice A6 lc.length c6) lc.length (flatV lc) := by
      refine ⟨O11.out.1, ?_⟩
      rcases O11.out.2 with hn | ⟨g, cap, cur, e, hbg, hg, rest⟩
      · exact .inl hn
      · refine .inr ⟨g, cap, cur, e, hbg, (hz12 _ (Array.getElem?_eq_some_iff.1 hg).1 ?_ ?_ ?_).trans hg, rest⟩
        · rintro rfl
          have := MB11.out.M
          rw [show W11.heap[g]? = _ from this] at hg
          cases hg
        · rintro rfl
          obtain ⟨q, hq, _⟩ := BB11.out.w
          rw [hq] at hg
          cases hg
        · rintro rfl
          rw [BB11.out.m0] at hg
          cases hg
    have X12 := Lib.hid (And.intro e12 (And.intro f12 (And.intro o12 (And.intro b12 (And.intro km12 (And.intro kw12 (And.intro rb12 (show wb + 1 < W12.heap.size by omega))))))))
    clear hN hB b12 hz12 e12 f12 s12 o12 km12 kw12 rb12 C11 E11 F11 KF11 B11 MB11 BB11 O11 m12 z12
    go_upto_region 12 with fail
    obtain ⟨e12, f12, o12, b12, km12, kw12, rb12, hB12⟩ := X12.out
    obtain ⟨A9, c9, rfl, v9⟩ := vals_own rb12 HSZ2.out.1 HSZ2.out.2
    obtain ⟨A7, c7, hA7, v7⟩ := vals_own o12 HSZ2.out.1 HSZ2.out.2
    cases hA7
    have bC := below_a1 W12 (.cells (celD (outK ke) (outV ke ve) ⟨#[]⟩) 63)
    have kr : (W12.alloc (.cells (celD (outK ke) (outV ke ve) ⟨#[]⟩) 63)).heap[W12.heap.size]? = some (.cells (celD (outK ke) (outV ke ve) ⟨#[]⟩) 63 (0, 0)) := new1 W12 _ _
    obtain ⟨W13, hW13⟩ : ∃ W13, W12.alloc (.cells (celD (outK ke) (outV ke ve) ⟨#[]⟩) 63) = W13 := ⟨_, rfl⟩
    rw [hW13] at bC kr ⊢
    have lt12 := (Array.getElem?_eq_some_iff.1 f12).1
    have lt13 := (Array.getElem?_eq_some_iff.1 kr).1
    have E13 := Lib.hid ((bC.block _ (by omega)).trans e12)
    have F13 := Lib.hid ((bC.block _ lt12).trans f12)
    have KM13 := Lib.hid ((bC.block _ hB12).trans km12)
    have KW13 := Lib.hid ((bC.block _ (by omega)).trans kw12)
    have V9 := Lib.hid (v9.on bC)
    have V7 := Lib.hid (v7.on bC)
    have B13 := Lib.hid (b12.trans (bC.mono b12.size))
    have KR := Lib.hid kr
    have S13 := Lib.hid (And.intro lt12 (And.intro hB12 (And.intro lt13 b12.size)))
    clear e12 f12 o12 b12 km12 kw12 rb12 hB12 v9 v7 bC kr hW13 lt12 lt13 X12
    go_upto_region 13 with (refine ldP (k := 58) (run_loadVar_row _ w.heap.size 63 63 _ (0, 0) _ E13.out Tryz.underlying63 rfl (by kernel_rfl)) rfl (by kernel_rfl) rfl rfl ?_)
    have bD := below_a1 W13 (.cells (celD ke ve se) 63)
    have e14 := (bD.block _ (show w.heap.size < W13.heap.size by have := S13.out; omega)).trans E13.out
    have c14 : (W13.alloc (.cells (celD ke ve se) 63)).cell? ⟨w.heap.size, 0, none⟩ = some (.int .i64 ke) := (cell_of_row _ _ 0 _ _ _ e14).trans rfl
    have E14 := Lib.hid e14
    clear bD e14
    have hcase : ke = 0 ∨ ke = 1 ∨ ke = 2 ∨ ke = 3 ∨ ke = 4 := by have := HKE.out; omega
    rcases hcase with rfl | rfl | rfl | rfl | rfl
    · skip
      have hse := HEL.out (by omega)
      subst hse
      clear HEL HKE
      go_upto_region 19 with fail
      clear c14 E14
      have hg15 : W13.alloc (.cells (celD 0 ve ⟨#[]⟩) 63) = W13.alloc (.cells (celD (outK 0) (outV 0 ve) ⟨#[]⟩) 63) := rfl
      rw [hg15]
      clear hg15
      obtain ⟨rk, hrk⟩ : ∃ rk, outK 0 = rk := ⟨_, rfl⟩
      obtain ⟨rv, hrv⟩ : ∃ rv, outV 0 ve = rv := ⟨_, rfl⟩
      rw [hrk, hrv] at KR ⊢
      clear hrk hrv
      have bE := below_a1 W13 (.cells (celD rk rv ⟨#[]⟩) 63)
      have ks := new1 W13 (celD rk rv ⟨#[]⟩) 63
      obtain ⟨W15, hW15⟩ : ∃ W15, W13.alloc (.cells (celD rk rv ⟨#[]⟩) 63) = W15 := ⟨_, rfl⟩
      rw [hW15] at bE ks ⊢
      have hS := S13.out
      have kmc : W15.cell? ⟨wb + 1, 0, none⟩ = some (.int .i64 1) := (cell_of_row _ _ 0 _ _ _ ((bE.block _ (by omega)).trans KM13.out)).trans rfl
      have kw15 := (bE.block _ (show wb < W13.heap.size by omega)).trans KW13.out
      have kfc : W15.cell? ⟨wb, 0, none⟩ = some (.int .i64 0) := (cell_of_row _ _ 0 _ _ _ kw15).trans rfl
      have kac : W15.cell? ⟨wb, 6, none⟩ = some (.slice A9 lc.length c9) := (cell_of_row _ _ 6 _ _ _ kw15).trans rfl
      have KW := Lib.hid kw15
      have KF := Lib.hid ((bE.block _ (show w.heap.size + 1 < W13.heap.size by omega)).trans F13.out)
      have KR15 := Lib.hid ((bE.block _ (show W12.heap.size < W13.heap.size by omega)).trans KR.out)
      have KS := Lib.hid ks
      have V9e := Lib.hid (V9.out.on (bE.mono (show W12.heap.size ≤ W13.heap.size by omega)))
      have V7e := Lib.hid (V7.out.on (bE.mono (show W12.heap.size ≤ W13.heap.size by omega)))
      have B15 := Lib.hid (B13.out.trans (bE.mono B13.out.size))
      have S15 := Lib.hid (show wb + 1 < W15.heap.size ∧ w.heap.size ≤ W15.heap.size ∧ w.heap.size + 1 < W15.heap.size ∧ W12.heap.size < W15.heap.size ∧ W13.heap.size < W15.heap.size from by
        have h1 := bE.size
        have h2 := (Array.getElem?_eq_some_iff.1 ks).1
        exact ⟨by omega, by omega, by omega, by omega, h2⟩)
      have C1 := Lib.hid (fun W => fBits_any v1 v1 W)
      rw [bits_self] at C1
      have C2 := Lib.hid (fun W => same_self rk rv ⟨#[]⟩ W)
      have C3 := Lib.hid (fun W => awake_any W)
      clear bE ks hS kw15 hW15 E13 F13 KM13 KW13 V9 V7 B13 KR S13
      go_wp2_with (first | refine ldP (k := 80) (ldSegW KW.out) rfl (by kernel_rfl) rfl rfl ?_ | refine ldP (k := 81) (run_loadVar_row _ (w.heap.size + 1) 57 57 _ (0, 0) _ KF.out Tryz.underlying57 rfl (by kernel_rfl)) rfl (by kernel_rfl) rfl rfl ?_)
      refine (C1.out _).mono ?_
      rintro e W16 ⟨rfl, b16⟩
      have hS := S15.out
      have kw16 := (b16.block _ (show wb < W15.heap.size by omega)).trans KW.out
      have kad : W16.cell? ⟨wb, 6, none⟩ = some (.slice A9 lc.length c9) := (cell_of_row _ _ 6 _ _ _ kw16).trans rfl
      have KW6 := Lib.hid kw16
      have KR6 := Lib.hid ((b16.block _ (show W12.heap.size < W15.heap.size by omega)).trans KR15.out)
      have KS6 := Lib.hid ((b16.block _ (show W13.heap.size < W15.heap.size by omega)).trans KS.out)
      have B16 := Lib.hid (B15.out.trans (b16.mono B15.out.size))
      have V9f := Lib.hid (V9e.out.on (b16.mono (by omega)))
      have V7f := Lib.hid (V7e.out.on (b16.mono (by omega)))
      have S16 := Lib.hid (show wb < W16.heap.size by have := b16.size; omega)
      have D16 := Lib.hid (show W12.heap.size < W16.heap.size by have := b16.size; omega)
      clear b16 hS kw16 kmc kfc kac KW KF KR15 KS B15 V9e V7e S15 C1
      go_wp2_with (first | refine ldP (k := 94) (run_loadVar_row _ W12.heap.size 63 63 _ (0, 0) _ KR6.out Tryz.underlying63 rfl (by kernel_rfl)) rfl (by kernel_rfl) rfl rfl ?_ | refine ldP (k := 95) (run_loadVar_row _ W13.heap.size 63 63 _ (0, 0) _ KS6.out Tryz.underlying63 rfl (by kernel_rfl)) rfl (by kernel_rfl) rfl rfl ?_)
      refine (C2.out _).mono ?_
      rintro e W17 ⟨rfl, b17⟩
      have KW7 := Lib.hid ((b17.block _ S16.out).trans KW6.out)
      have B17 := Lib.hid (B16.out.trans (b17.mono B16.out.size))
      have V9g := Lib.hid ((V9f.out.on (b17.mono (Nat.le_of_lt D16.out))))
      have V7g := Lib.hid ((V7f.out.on (b17.mono (Nat.le_of_lt D16.out))))
      have S17 := Lib.hid (show wb < W17.heap.size ∧ W12.heap.size ≤ W17.heap.size by have := b17.size; have := S16.out; have := D16.out; omega)
      clear b17 kad KR6 KS6 B16 V9f V7f S16 D16 KW6 C2
      go_wp2_with fail
      go_loopw [16] (fun v16 wr => ∃ k : Nat, v16 = .int .i64 (k : Nat) ∧ Hid (k ≤ lc.length) ∧ Hid (Below W17.heap.size W17 wr)) (fun v16 _ => ((lc.length : Int) - intOf v16).toNat)
      case atStart => exact ⟨0, rfl, Lib.hid (Nat.zero_le _), Lib.hid (Below.refl _ _)⟩
      case round =>
        obtain ⟨k, rfl, HK, HW⟩ := hrel
        by_cases hkn : k < lc.length
        · skip
          have hm' := HSZ2.out.1
          have t1 : decide ((k : Int) < (lc.length : Int)) = true := decide_eq_true (by omega)
          have t2 : (k : Int) < (lc.length : Int) := by omega
          have t3 : (0 : Int) ≤ (k : Int) := by omega
          have k1 : IntKind.i64.wrap ((k : Int) + 1) = ((k + 1 : Nat) : Int) := by rw [IntWalk.i64_in _ (by omega)]; omega
          obtain ⟨x, hx⟩ : ∃ x, lc[k]? = some x := ⟨_, List.getElem?_eq_getElem hkn⟩
          obtain ⟨b, o, hA, hbl, hat⟩ := V9g.out.at' (by rintro rfl; simp at hkn)
          obtain ⟨b', o', hA', hbl', hat'⟩ := V7g.out.at' (by rintro rfl; simp at hkn)
          subst hA
          subst hA'
          have hS := S17.out
          have CA := Lib.hid ((hat k x hx).on HW.out (by omega))
          have CB := Lib.hid ((hat' k x hx).on HW.out (by omega))
          have CW := Lib.hid ((cell_of_row _ _ 6 _ _ _ ((HW.out.block _ hS.1).trans KW7.out)).trans (show (celE 0 v1 (.slice (some ⟨b, o, none⟩) lc.length c9))[6]? = some (.slice (some ⟨b, o, none⟩) lc.length c9) from rfl))
          have HL := Lib.hid (show b < wr.heap.size ∧ b' < wr.heap.size ∧ wb < wr.heap.size by have := HW.out.size; omega)
          have HKN := Lib.hid hkn
          have C1 := Lib.hid (fun W => fBits_any x x W)
          rw [bits_self] at C1
          clear hx hkn hm' hat hat' hbl hbl' hS
          go_upto_region 24 with fail
          refine wp_region_held_drew (S := fun W => W.cell? ⟨wb, 6, none⟩ = some (.slice (some ⟨b, o, none⟩) lc.length c9) ∧ CelAt W b (o + k * 5) x ∧ CelAt W b' (o' + k * 5) x) (by kernel_rfl) ⟨CW.out, CA.out.on (Below.refl _ _).drew HL.out.1, CB.out.on (Below.refl _ _).drew HL.out.2.1⟩ (fun hHeld => ?_)
          refine take_s (i := 0) rfl (by kernel_rfl) (by kernel_rfl) (by kernel_rfl) (fun _ _ _ h => h) (Or.inl ⟨by rfl, by (intro w' hSw; go_simp; try with_reducible rfl)⟩) rfl (by assumption) ?_; simp only [lset]
          refine take_s (v := .slice (some ⟨b, o, none⟩) lc.length c9) (i := 1) rfl (by kernel_rfl) (by kernel_rfl) (by kernel_rfl) (fun _ _ _ h => h) (Or.inl ⟨by rfl, by (intro w' hSw; have c := hSw.1; go_simp)⟩) rfl (by assumption) ?_; simp only [lset]
          refine take_s (i := 2) rfl (by kernel_rfl) (by kernel_rfl) (by kernel_rfl) (fun _ _ _ h => h) (Or.inl ⟨by rfl, by (intro w' hSw; go_simp; try with_reducible rfl)⟩) rfl (by assumption) ?_; simp only [lset]
          refine take_s (v := .pointer (some ⟨b, o + k * 5, none⟩)) (i := 3) rfl (by kernel_rfl) (by kernel_rfl) (by kernel_rfl) (fun _ _ _ h => h) (Or.inl ⟨by rfl, by (intro w' hSw; go_simp; try with_reducible rfl)⟩) rfl (by assumption) ?_; simp only [lset]
          refine take_s (v := .agg (celX x)) (i := 4) rfl (by kernel_rfl) (by kernel_rfl) (by kernel_rfl) (fun _ _ _ h => h) (Or.inl ⟨by rfl, by (intro w' hSw; exact ldA_run hSw.2.1.ld rfl rfl)⟩) rfl (by assumption) ?_; simp only [lset]
          refine take_s (i := 5) rfl (by kernel_rfl) (by kernel_rfl) (by kernel_rfl) (fun _ _ _ h => h) (Or.inl ⟨by rfl, by (intro w' hSw; go_simp; try with_reducible rfl)⟩) rfl (by assumption) ?_; simp only [lset]
          refine take_s (i := 6) rfl (by kernel_rfl) (by kernel_rfl) (by kernel_rfl) (fun _ _ _ h => h) (Or.inl ⟨by rfl, by (intro w' hSw; go_simp; try with_reducible rfl)⟩) rfl (by assumption) ?_; simp only [lset]
          refine take_s (v := .pointer (some ⟨b', o' + k * 5, none⟩)) (i := 7) rfl (by kernel_rfl) (by kernel_rfl) (by kernel_rfl) (fun _ _ _ h => h) (Or.inl ⟨by rfl, by (intro w' hSw; go_simp; try with_reducible rfl)⟩) rfl (by assumption) ?_; simp only [lset]
          refine take_s (v := .agg (celX x)) (i := 8) rfl (by kernel_rfl) (by kernel_rfl) (by kernel_rfl) (fun _ _ _ h => h) (Or.inl ⟨by rfl, by (intro w' hSw; exact ldA_run hSw.2.2.ld rfl rfl)⟩) rfl (by assumption) ?_; simp only [lset]
          refine call_s (i := 9) (by kernel_rfl) rfl rfl (by rfl) (fun K hK => ?_)
          go_simp
          refine (C1.out _).mono ?_
          rintro e w2 ⟨rfl, b2⟩
          have B2 := Lib.hid (HW.out.trans (((Below.refl _ _).drew.trans b2).mono HW.out.size))
          have hHeld2 := And.intro ((World.cell?_of_block (b2.block _ HL.out.2.2)).trans CW.out) (And.intro (CA.out.on ((Below.refl _ _).drew.trans b2) HL.out.1) (CB.out.on ((Below.refl _ _).drew.trans b2) HL.out.2.1))
          refine hK.out _ _ hHeld2 ?_; clear hK K hHeld b2 C1 CA CB CW HL HW; simp only [lset]
          refine take_s (i := 10) rfl (by kernel_rfl) (by kernel_rfl) (by kernel_rfl) (fun _ _ _ h => h) (Or.inl ⟨by rfl, by (intro w' hSw; go_simp; try with_reducible rfl)⟩) rfl (by assumption) ?_; simp only [lset]
          refine wpAnyH_done (by kernel_rfl) ?_ _
          go_wp2_with fail
          go_roundw
          case rel => exact ⟨k + 1, by go_num, Lib.hid (by have := HKN.out; omega), B2⟩
          case measure => have := HKN.out; simp [intOf]; omega
        · skip
          have t1 : decide ((k : Int) < (lc.length : Int)) = false := decide_eq_false (by omega)
          have t2 : ¬ ((k : Int) < (lc.length : Int)) := by omega
          clear hkn
          go_wp2_with fail
          refine (C3.out _).mono ?_
          rintro e w3 ⟨rfl, b3⟩
          have B3 := Lib.hid (B17.out.trans ((HW.out.trans (b3.mono HW.out.size)).mono B17.out.size))
          go_wp2
          go_ret
          exact ⟨rfl, B3.out⟩
    · skip
      have hse := HEL.out (by omega)
      subst hse
      clear HEL HKE
      go_upto_region 19 with fail
      clear c14 E14
      have hg15 : W13.alloc (.cells (celD 1 ve ⟨#[]⟩) 63) = W13.alloc (.cells (celD (outK 1) (outV 1 ve) ⟨#[]⟩) 63) := rfl
      rw [hg15]
      clear hg15
      obtain ⟨rk, hrk⟩ : ∃ rk, outK 1 = rk := ⟨_, rfl⟩
      obtain ⟨rv, hrv⟩ : ∃ rv, outV 1 ve = rv := ⟨_, rfl⟩
      rw [hrk, hrv] at KR ⊢
      clear hrk hrv
      have bE := below_a1 W13 (.cells (celD rk rv ⟨#[]⟩) 63)
      have ks := new1 W13 (celD rk rv ⟨#[]⟩) 63
      obtain ⟨W15, hW15⟩ : ∃ W15, W13.alloc (.cells (celD rk rv ⟨#[]⟩) 63) = W15 := ⟨_, rfl⟩
      rw [hW15] at bE ks ⊢
      have hS := S13.out
      have kmc : W15.cell? ⟨wb + 1, 0, none⟩ = some (.int .i64 1) := (cell_of_row _ _ 0 _ _ _ ((bE.block _ (by omega)).trans KM13.out)).trans rfl
      have kw15 := (bE.block _ (show wb < W13.heap.size by omega)).trans KW13.out
      have kfc : W15.cell? ⟨wb, 0, none⟩ = some (.int .i64 0) := (cell_of_row _ _ 0 _ _ _ kw15).trans rfl
      have kac : W15.cell? ⟨wb, 6, none⟩ = some (.slice A9 lc.length c9) := (cell_of_row _ _ 6 _ _ _ kw15).trans rfl
      have KW := Lib.hid kw15
      have KF := Lib.hid ((bE.block _ (show w.heap.size + 1 < W13.heap.size by omega)).trans F13.out)
      have KR15 := Lib.hid ((bE.block _ (show W12.heap.size < W13.heap.size by omega)).trans KR.out)
      have KS := Lib.hid ks
      have V9e := Lib.hid (V9.out.on (bE.mono (show W12.heap.size ≤ W13.heap.size by omega)))
      have V7e := Lib.hid (V7.out.on (bE.mono (show W12.heap.size ≤ W13.heap.size by omega)))
      have B15 := Lib.hid (B13.out.trans (bE.mono B13.out.size))
      have S15 := Lib.hid (show wb + 1 < W15.heap.size ∧ w.heap.size ≤ W15.heap.size ∧ w.heap.size + 1 < W15.heap.size ∧ W12.heap.size < W15.heap.size ∧ W13.heap.size < W15.heap.size from by
        have h1 := bE.size
        have h2 := (Array.getElem?_eq_some_iff.1 ks).1
        exact ⟨by omega, by omega, by omega, by omega, h2⟩)
      have C1 := Lib.hid (fun W => fBits_any v1 v1 W)
      rw [bits_self] at C1
      have C2 := Lib.hid (fun W => same_self rk rv ⟨#[]⟩ W)
      have C3 := Lib.hid (fun W => awake_any W)
      clear bE ks hS kw15 hW15 E13 F13 KM13 KW13 V9 V7 B13 KR S13
      go_wp2_with (first | refine ldP (k := 80) (ldSegW KW.out) rfl (by kernel_rfl) rfl rfl ?_ | refine ldP (k := 81) (run_loadVar_row _ (w.heap.size + 1) 57 57 _ (0, 0) _ KF.out Tryz.underlying57 rfl (by kernel_rfl)) rfl (by kernel_rfl) rfl rfl ?_)
      refine (C1.out _).mono ?_
      rintro e W16 ⟨rfl, b16⟩
      have hS := S15.out
      have kw16 := (b16.block _ (show wb < W15.heap.size by omega)).trans KW.out
      have kad : W16.cell? ⟨wb, 6, none⟩ = some (.slice A9 lc.length c9) := (cell_of_row _ _ 6 _ _ _ kw16).trans rfl
      have KW6 := Lib.hid kw16
      have KR6 := Lib.hid ((b16.block _ (show W12.heap.size < W15.heap.size by omega)).trans KR15.out)
      have KS6 := Lib.hid ((b16.block _ (show W13.heap.size < W15.heap.size by omega)).trans KS.out)
      have B16 := Lib.hid (B15.out.trans (b16.mono B15.out.size))
      have V9f := Lib.hid (V9e.out.on (b16.mono (by omega)))
      have V7f := Lib.hid (V7e.out.on (b16.mono (by omega)))
      have S16 := Lib.hid (show wb < W16.heap.size by have := b16.size; omega)
      have D16 := Lib.hid (show W12.heap.size < W16.heap.size by have := b16.size; omega)
      clear b16 hS kw16 kmc kfc kac KW KF KR15 KS B15 V9e V7e S15 C1
      go_wp2_with (first | refine ldP (k := 94) (run_loadVar_row _ W12.heap.size 63 63 _ (0, 0) _ KR6.out Tryz.underlying63 rfl (by kernel_rfl)) rfl (by kernel_rfl) rfl rfl ?_ | refine ldP (k := 95) (run_loadVar_row _ W13.heap.size 63 63 _ (0, 0) _ KS6.out Tryz.underlying63 rfl (by kernel_rfl)) rfl (by kernel_rfl) rfl rfl ?_)
      refine (C2.out _).mono ?_
      rintro e W17 ⟨rfl, b17⟩
      have KW7 := Lib.hid ((b17.block _ S16.out).trans KW6.out)
      have B17 := Lib.hid (B16.out.trans (b17.mono B16.out.size))
      have V9g := Lib.hid ((V9f.out.on (b17.mono (Nat.le_of_lt D16.out))))
      have V7g := Lib.hid ((V7f.out.on (b17.mono (Nat.le_of_lt D16.out))))
      have S17 := Lib.hid (show wb < W17.heap.size ∧ W12.heap.size ≤ W17.heap.size by have := b17.size; have := S16.out; have := D16.out; omega)
      clear b17 kad KR6 KS6 B16 V9f V7f S16 D16 KW6 C2
      go_wp2_with fail
      go_loopw [16] (fun v16 wr => ∃ k : Nat, v16 = .int .i64 (k : Nat) ∧ Hid (k ≤ lc.length) ∧ Hid (Below W17.heap.size W17 wr)) (fun v16 _ => ((lc.length : Int) - intOf v16).toNat)
      case atStart => exact ⟨0, rfl, Lib.hid (Nat.zero_le _), Lib.hid (Below.refl _ _)⟩
      case round =>
        obtain ⟨k, rfl, HK, HW⟩ := hrel
        by_cases hkn : k < lc.length
        · skip
          have hm' := HSZ2.out.1
          have t1 : decide ((k : Int) < (lc.length : Int)) = true := decide_eq_true (by omega)
          have t2 : (k : Int) < (lc.length : Int) := by omega
          have t3 : (0 : Int) ≤ (k : Int) := by omega
          have k1 : IntKind.i64.wrap ((k : Int) + 1) = ((k + 1 : Nat) : Int) := by rw [IntWalk.i64_in _ (by omega)]; omega
          obtain ⟨x, hx⟩ : ∃ x, lc[k]? = some x := ⟨_, List.getElem?_eq_getElem hkn⟩
          obtain ⟨b, o, hA, hbl, hat⟩ := V9g.out.at' (by rintro rfl; simp at hkn)
          obtain ⟨b', o', hA', hbl', hat'⟩ := V7g.out.at' (by rintro rfl; simp at hkn)
          subst hA
          subst hA'
          have hS := S17.out
          have CA := Lib.hid ((hat k x hx).on HW.out (by omega))
          have CB := Lib.hid ((hat' k x hx).on HW.out (by omega))
          have CW := Lib.hid ((cell_of_row _ _ 6 _ _ _ ((HW.out.block _ hS.1).trans KW7.out)).trans (show (celE 0 v1 (.slice (some ⟨b, o, none⟩) lc.length c9))[6]? = some (.slice (some ⟨b, o, none⟩) lc.length c9) from rfl))
          have HL := Lib.hid (show b < wr.heap.size ∧ b' < wr.heap.size ∧ wb < wr.heap.size by have := HW.out.size; omega)
          have HKN := Lib.hid hkn
          have C1 := Lib.hid (fun W => fBits_any x x W)
          rw [bits_self] at C1
          clear hx hkn hm' hat hat' hbl hbl' hS
          go_upto_region 24 with fail
          refine wp_region_held_drew (S := fun W => W.cell? ⟨wb, 6, none⟩ = some (.slice (some ⟨b, o, none⟩) lc.length c9) ∧ CelAt W b (o + k * 5) x ∧ CelAt W b' (o' + k * 5) x) (by kernel_rfl) ⟨CW.out, CA.out.on (Below.refl _ _).drew HL.out.1, CB.out.on (Below.refl _ _).drew HL.out.2.1⟩ (fun hHeld => ?_)
          refine take_s (i := 0) rfl (by kernel_rfl) (by kernel_rfl) (by kernel_rfl) (fun _ _ _ h => h) (Or.inl ⟨by rfl, by (intro w' hSw; go_simp; try with_reducible rfl)⟩) rfl (by assumption) ?_; simp only [lset]
          refine take_s (v := .slice (some ⟨b, o, none⟩) lc.length c9) (i := 1) rfl (by kernel_rfl) (by kernel_rfl) (by kernel_rfl) (fun _ _ _ h => h) (Or.inl ⟨by rfl, by (intro w' hSw; have c := hSw.1; go_simp)⟩) rfl (by assumption) ?_; simp only [lset]
          refine take_s (i := 2) rfl (by kernel_rfl) (by kernel_rfl) (by kernel_rfl) (fun _ _ _ h => h) (Or.inl ⟨by rfl, by (intro w' hSw; go_simp; try with_reducible rfl)⟩) rfl (by assumption) ?_; simp only [lset]
          refine take_s (v := .pointer (some ⟨b, o + k * 5, none⟩)) (i := 3) rfl (by kernel_rfl) (by kernel_rfl) (by kernel_rfl) (fun _ _ _ h => h) (Or.inl ⟨by rfl, by (intro w' hSw; go_simp; try with_reducible rfl)⟩) rfl (by assumption) ?_; simp only [lset]
          refine take_s (v := .agg (celX x)) (i := 4) rfl (by kernel_rfl) (by kernel_rfl) (by kernel_rfl) (fun _ _ _ h => h) (Or.inl ⟨by rfl, by (intro w' hSw; exact ldA_run hSw.2.1.ld rfl rfl)⟩) rfl (by assumption) ?_; simp only [lset]
          refine take_s (i := 5) rfl (by kernel_rfl) (by kernel_rfl) (by kernel_rfl) (fun _ _ _ h => h) (Or.inl ⟨by rfl, by (intro w' hSw; go_simp; try with_reducible rfl)⟩) rfl (by assumption) ?_; simp only [lset]
          refine take_s (i := 6) rfl (by kernel_rfl) (by kernel_rfl) (by kernel_rfl) (fun _ _ _ h => h) (Or.inl ⟨by rfl, by (intro w' hSw; go_simp; try with_reducible rfl)⟩) rfl (by assumption) ?_; simp only [lset]
          refine take_s (v := .pointer (some ⟨b', o' + k * 5, none⟩)) (i := 7) rfl (by kernel_rfl) (by kernel_rfl) (by kernel_rfl) (fun _ _ _ h => h) (Or.inl ⟨by rfl, by (intro w' hSw; go_simp; try with_reducible rfl)⟩) rfl (by assumption) ?_; simp only [lset]
          refine take_s (v := .agg (celX x)) (i := 8) rfl (by kernel_rfl) (by kernel_rfl) (by kernel_rfl) (fun _ _ _ h => h) (Or.inl ⟨by rfl, by (intro w' hSw; exact ldA_run hSw.2.2.ld rfl rfl)⟩) rfl (by assumption) ?_; simp only [lset]
          refine call_s (i := 9) (by kernel_rfl) rfl rfl (by rfl) (fun K hK => ?_)
          go_simp
          refine (C1.out _).mono ?_
          rintro e w2 ⟨rfl, b2⟩
          have B2 := Lib.hid (HW.out.trans (((Below.refl _ _).drew.trans b2).mono HW.out.size))
          have hHeld2 := And.intro ((World.cell?_of_block (b2.block _ HL.out.2.2)).trans CW.out) (And.intro (CA.out.on ((Below.refl _ _).drew.trans b2) HL.out.1) (CB.out.on ((Below.refl _ _).drew.trans b2) HL.out.2.1))
          refine hK.out _ _ hHeld2 ?_; clear hK K hHeld b2 C1 CA CB CW HL HW; simp only [lset]
          refine take_s (i := 10) rfl (by kernel_rfl) (by kernel_rfl) (by kernel_rfl) (fun _ _ _ h => h) (Or.inl ⟨by rfl, by (intro w' hSw; go_simp; try with_reducible rfl)⟩) rfl (by assumption) ?_; simp only [lset]
          refine wpAnyH_done (by kernel_rfl) ?_ _
          go_wp2_with fail
          go_roundw
          case rel => exact ⟨k + 1, by go_num, Lib.hid (by have := HKN.out; omega), B2⟩
          case measure => have := HKN.out; simp [intOf]; omega
        · skip
          have t1 : decide ((k : Int) < (lc.length : Int)) = false := decide_eq_false (by omega)
          have t2 : ¬ ((k : Int) < (lc.length : Int)) := by omega
          clear hkn
          go_wp2_with fail
          refine (C3.out _).mono ?_
          rintro e w3 ⟨rfl, b3⟩
          have B3 := Lib.hid (B17.out.trans ((HW.out.trans (b3.mono HW.out.size)).mono B17.out.size))
          go_wp2
          go_ret
          exact ⟨rfl, B3.out⟩
    · skip
      clear HEL HKE
      go_upto_region 19 with (refine ldP (k := 64) (ldSegD E14.out) rfl (by kernel_rfl) rfl rfl ?_)
      clear c14 E14
      have hg15 : W13.alloc (.cells (celD 0 ve ⟨#[]⟩) 63) = W13.alloc (.cells (celD (outK 2) (outV 2 ve) ⟨#[]⟩) 63) := rfl
      rw [hg15]
      clear hg15
      obtain ⟨rk, hrk⟩ : ∃ rk, outK 2 = rk := ⟨_, rfl⟩
      obtain ⟨rv, hrv⟩ : ∃ rv, outV 2 ve = rv := ⟨_, rfl⟩
      rw [hrk, hrv] at KR ⊢
      clear hrk hrv
      have bE := below_a1 W13 (.cells (celD rk rv ⟨#[]⟩) 63)
      have ks := new1 W13 (celD rk rv ⟨#[]⟩) 63
      obtain ⟨W15, hW15⟩ : ∃ W15, W13.alloc (.cells (celD rk rv ⟨#[]⟩) 63) = W15 := ⟨_, rfl⟩
      rw [hW15] at bE ks ⊢
      have hS := S13.out
      have kmc : W15.cell? ⟨wb + 1, 0, none⟩ = some (.int .i64 1) := (cell_of_row _ _ 0 _ _ _ ((bE.block _ (by omega)).trans KM13.out)).trans rfl
      have kw15 := (bE.block _ (show wb < W13.heap.size by omega)).trans KW13.out
      have kfc : W15.cell? ⟨wb, 0, none⟩ = some (.int .i64 0) := (cell_of_row _ _ 0 _ _ _ kw15).trans rfl
      have kac : W15.cell? ⟨wb, 6, none⟩ = some (.slice A9 lc.length c9) := (cell_of_row _ _ 6 _ _ _ kw15).trans rfl
      have KW := Lib.hid kw15
      have KF := Lib.hid ((bE.block _ (show w.heap.size + 1 < W13.heap.size by omega)).trans F13.out)
      have KR15 := Lib.hid ((bE.block _ (show W12.heap.size < W13.heap.size by omega)).trans KR.out)
      have KS := Lib.hid ks
      have V9e := Lib.hid (V9.out.on (bE.mono (show W12.heap.size ≤ W13.heap.size by omega)))
      have V7e := Lib.hid (V7.out.on (bE.mono (show W12.heap.size ≤ W13.heap.size by omega)))
      have B15 := Lib.hid (B13.out.trans (bE.mono B13.out.size))
      have S15 := Lib.hid (show wb + 1 < W15.heap.size ∧ w.heap.size ≤ W15.heap.size ∧ w.heap.size + 1 < W15.heap.size ∧ W12.heap.size < W15.heap.size ∧ W13.heap.size < W15.heap.size from by
        have h1 := bE.size
        have h2 := (Array.getElem?_eq_some_iff.1 ks).1
        exact ⟨by omega, by omega, by omega, by omega, h2⟩)
      have C1 := Lib.hid (fun W => fBits_any v1 v1 W)
      rw [bits_self] at C1
      have C2 := Lib.hid (fun W => same_self rk rv ⟨#[]⟩ W)
      have C3 := Lib.hid (fun W => awake_any W)
      clear bE ks hS kw15 hW15 E13 F13 KM13 KW13 V9 V7 B13 KR S13
      go_wp2_with (first | refine ldP (k := 80) (ldSegW KW.out) rfl (by kernel_rfl) rfl rfl ?_ | refine ldP (k := 81) (run_loadVar_row _ (w.heap.size + 1) 57 57 _ (0, 0) _ KF.out Tryz.underlying57 rfl (by kernel_rfl)) rfl (by kernel_rfl) rfl rfl ?_)
      refine (C1.out _).mono ?_
      rintro e W16 ⟨rfl, b16⟩
      have hS := S15.out
      have kw16 := (b16.block _ (show wb < W15.heap.size by omega)).trans KW.out
      have kad : W16.cell? ⟨wb, 6, none⟩ = some (.slice A9 lc.length c9) := (cell_of_row _ _ 6 _ _ _ kw16).trans rfl
      have KW6 := Lib.hid kw16
      have KR6 := Lib.hid ((b16.block _ (show W12.heap.size < W15.heap.size by omega)).trans KR15.out)
      have KS6 := Lib.hid ((b16.block _ (show W13.heap.size < W15.heap.size by omega)).trans KS.out)
      have B16 := Lib.hid (B15.out.trans (b16.mono B15.out.size))
      have V9f := Lib.hid (V9e.out.on (b16.mono (by omega)))
      have V7f := Lib.hid (V7e.out.on (b16.mono (by omega)))
      have S16 := Lib.hid (show wb < W16.heap.size by have := b16.size; omega)
      have D16 := Lib.hid (show W12.heap.size < W16.heap.size by have := b16.size; omega)
      clear b16 hS kw16 kmc kfc kac KW KF KR15 KS B15 V9e V7e S15 C1
      go_wp2_with (first | refine ldP (k := 94) (run_loadVar_row _ W12.heap.size 63 63 _ (0, 0) _ KR6.out Tryz.underlying63 rfl (by kernel_rfl)) rfl (by kernel_rfl) rfl rfl ?_ | refine ldP (k := 95) (run_loadVar_row _ W13.heap.size 63 63 _ (0, 0) _ KS6.out Tryz.underlying63 rfl (by kernel_rfl)) rfl (by kernel_rfl) rfl rfl ?_)
      refine (C2.out _).mono ?_
      rintro e W17 ⟨rfl, b17⟩
      have KW7 := Lib.hid ((b17.block _ S16.out).trans KW6.out)
      have B17 := Lib.hid (B16.out.trans (b17.mono B16.out.size))
      have V9g := Lib.hid ((V9f.out.on (b17.mono (Nat.le_of_lt D16.out))))
      have V7g := Lib.hid ((V7f.out.on (b17.mono (Nat.le_of_lt D16.out))))
      have S17 := Lib.hid (show wb < W17.heap.size ∧ W12.heap.size ≤ W17.heap.size by have := b17.size; have := S16.out; have := D16.out; omega)
      clear b17 kad KR6 KS6 B16 V9f V7f S16 D16 KW6 C2
      go_wp2_with fail
      go_loopw [16] (fun v16 wr => ∃ k : Nat, v16 = .int .i64 (k : Nat) ∧ Hid (k ≤ lc.length) ∧ Hid (Below W17.heap.size W17 wr)) (fun v16 _ => ((lc.length : Int) - intOf v16).toNat)
      case atStart => exact ⟨0, rfl, Lib.hid (Nat.zero_le _), Lib.hid (Below.refl _ _)⟩
      case round =>
        obtain ⟨k, rfl, HK, HW⟩ := hrel
        by_cases hkn : k < lc.length
        · skip
          have hm' := HSZ2.out.1
          have t1 : decide ((k : Int) < (lc.length : Int)) = true := decide_eq_true (by omega)
          have t2 : (k : Int) < (lc.length : Int) := by omega
          have t3 : (0 : Int) ≤ (k : Int) := by omega
          have k1 : IntKind.i64.wrap ((k : Int) + 1) = ((k + 1 : Nat) : Int) := by rw [IntWalk.i64_in _ (by omega)]; omega
          obtain ⟨x, hx⟩ : ∃ x, lc[k]? = some x := ⟨_, List.getElem?_eq_getElem hkn⟩
          obtain ⟨b, o, hA, hbl, hat⟩ := V9g.out.at' (by rintro rfl; simp at hkn)
          obtain ⟨b', o', hA', hbl', hat'⟩ := V7g.out.at' (by rintro rfl; simp at hkn)
          subst hA
          subst hA'
          have hS := S17.out
          have CA := Lib.hid ((hat k x hx).on HW.out (by omega))
          have CB := Lib.hid ((hat' k x hx).on HW.out (by omega))
          have CW := Lib.hid ((cell_of_row _ _ 6 _ _ _ ((HW.out.block _ hS.1).trans KW7.out)).trans (show (celE 0 v1 (.slice (some ⟨b, o, none⟩) lc.length c9))[6]? = some (.slice (some ⟨b, o, none⟩) lc.length c9) from rfl))
          have HL := Lib.hid (show b < wr.heap.size ∧ b' < wr.heap.size ∧ wb < wr.heap.size by have := HW.out.size; omega)
          have HKN := Lib.hid hkn
          have C1 := Lib.hid (fun W => fBits_any x x W)
          rw [bits_self] at C1
          clear hx hkn hm' hat hat' hbl hbl' hS
          go_upto_region 24 with fail
          refine wp_region_held_drew (S := fun W => W.cell? ⟨wb, 6, none⟩ = some (.slice (some ⟨b, o, none⟩) lc.length c9) ∧ CelAt W b (o + k * 5) x ∧ CelAt W b' (o' + k * 5) x) (by kernel_rfl) ⟨CW.out, CA.out.on (Below.refl _ _).drew HL.out.1, CB.out.on (Below.refl _ _).drew HL.out.2.1⟩ (fun hHeld => ?_)
          refine take_s (i := 0) rfl (by kernel_rfl) (by kernel_rfl) (by kernel_rfl) (fun _ _ _ h => h) (Or.inl ⟨by rfl, by (intro w' hSw; go_simp; try with_reducible rfl)⟩) rfl (by assumption) ?_; simp only [lset]
          refine take_s (v := .slice (some ⟨b, o, none⟩) lc.length c9) (i := 1) rfl (by kernel_rfl) (by kernel_rfl) (by kernel_rfl) (fun _ _ _ h => h) (Or.inl ⟨by rfl, by (intro w' hSw; have c := hSw.1; go_simp)⟩) rfl (by assumption) ?_; simp only [lset]
          refine take_s (i := 2) rfl (by kernel_rfl) (by kernel_rfl) (by kernel_rfl) (fun _ _ _ h => h) (Or.inl ⟨by rfl, by (intro w' hSw; go_simp; try with_reducible rfl)⟩) rfl (by assumption) ?_; simp only [lset]
          refine take_s (v := .pointer (some ⟨b, o + k * 5, none⟩)) (i := 3) rfl (by kernel_rfl) (by kernel_rfl) (by kernel_rfl) (fun _ _ _ h => h) (Or.inl ⟨by rfl, by (intro w' hSw; go_simp; try with_reducible rfl)⟩) rfl (by assumption) ?_; simp only [lset]
          refine take_s (v := .agg (celX x)) (i := 4) rfl (by kernel_rfl) (by kernel_rfl) (by kernel_rfl) (fun _ _ _ h => h) (Or.inl ⟨by rfl, by (intro w' hSw; exact ldA_run hSw.2.1.ld rfl rfl)⟩) rfl (by assumption) ?_; simp only [lset]
          refine take_s (i := 5) rfl (by kernel_rfl) (by kernel_rfl) (by kernel_rfl) (fun _ _ _ h => h) (Or.inl ⟨by rfl, by (intro w' hSw; go_simp; try with_reducible rfl)⟩) rfl (by assumption) ?_; simp only [lset]
          refine take_s (i := 6) rfl (by kernel_rfl) (by kernel_rfl) (by kernel_rfl) (fun _ _ _ h => h) (Or.inl ⟨by rfl, by (intro w' hSw; go_simp; try with_reducible rfl)⟩) rfl (by assumption) ?_; simp only [lset]
          refine take_s (v := .pointer (some ⟨b', o' + k * 5, none⟩)) (i := 7) rfl (by kernel_rfl) (by kernel_rfl) (by kernel_rfl) (fun _ _ _ h => h) (Or.inl ⟨by rfl, by (intro w' hSw; go_simp; try with_reducible rfl)⟩) rfl (by assumption) ?_; simp only [lset]
          refine take_s (v := .agg (celX x)) (i := 8) rfl (by kernel_rfl) (by kernel_rfl) (by kernel_rfl) (fun _ _ _ h => h) (Or.inl ⟨by rfl, by (intro w' hSw; exact ldA_run hSw.2.2.ld rfl rfl)⟩) rfl (by assumption) ?_; simp only [lset]
          refine call_s (i := 9) (by kernel_rfl) rfl rfl (by rfl) (fun K hK => ?_)
          go_simp
          refine (C1.out _).mono ?_
          rintro e w2 ⟨rfl, b2⟩
          have B2 := Lib.hid (HW.out.trans (((Below.refl _ _).drew.trans b2).mono HW.out.size))
          have hHeld2 := And.intro ((World.cell?_of_block (b2.block _ HL.out.2.2)).trans CW.out) (And.intro (CA.out.on ((Below.refl _ _).drew.trans b2) HL.out.1) (CB.out.on ((Below.refl _ _).drew.trans b2) HL.out.2.1))
          refine hK.out _ _ hHeld2 ?_; clear hK K hHeld b2 C1 CA CB CW HL HW; simp only [lset]
          refine take_s (i := 10) rfl (by kernel_rfl) (by kernel_rfl) (by kernel_rfl) (fun _ _ _ h => h) (Or.inl ⟨by rfl, by (intro w' hSw; go_simp; try with_reducible rfl)⟩) rfl (by assumption) ?_; simp only [lset]
          refine wpAnyH_done (by kernel_rfl) ?_ _
          go_wp2_with fail
          go_roundw
          case rel => exact ⟨k + 1, by go_num, Lib.hid (by have := HKN.out; omega), B2⟩
          case measure => have := HKN.out; simp [intOf]; omega
        · skip
          have t1 : decide ((k : Int) < (lc.length : Int)) = false := decide_eq_false (by omega)
          have t2 : ¬ ((k : Int) < (lc.length : Int)) := by omega
          clear hkn
          go_wp2_with fail
          refine (C3.out _).mono ?_
          rintro e w3 ⟨rfl, b3⟩
          have B3 := Lib.hid (B17.out.trans ((HW.out.trans (b3.mono HW.out.size)).mono B17.out.size))
          go_wp2
          go_ret
          exact ⟨rfl, B3.out⟩
    · skip
      clear HEL HKE
      go_upto_region 19 with fail
      clear c14 E14
      have hg15 : W13.alloc (.cells (zD) 63) = W13.alloc (.cells (celD (outK 3) (outV 3 ve) ⟨#[]⟩) 63) := rfl
      rw [hg15]
      clear hg15
      obtain ⟨rk, hrk⟩ : ∃ rk, outK 3 = rk := ⟨_, rfl⟩
      obtain ⟨rv, hrv⟩ : ∃ rv, outV 3 ve = rv := ⟨_, rfl⟩
      rw [hrk, hrv] at KR ⊢
      clear hrk hrv
      have bE := below_a1 W13 (.cells (celD rk rv ⟨#[]⟩) 63)
      have ks := new1 W13 (celD rk rv ⟨#[]⟩) 63
      obtain ⟨W15, hW15⟩ : ∃ W15, W13.alloc (.cells (celD rk rv ⟨#[]⟩) 63) = W15 := ⟨_, rfl⟩
      rw [hW15] at bE ks ⊢
      have hS := S13.out
      have kmc : W15.cell? ⟨wb + 1, 0, none⟩ = some (.int .i64 1) := (cell_of_row _ _ 0 _ _ _ ((bE.block _ (by omega)).trans KM13.out)).trans rfl
      have kw15 := (bE.block _ (show wb < W13.heap.size by omega)).trans KW13.out
      have kfc : W15.cell? ⟨wb, 0, none⟩ = some (.int .i64 0) := (cell_of_row _ _ 0 _ _ _ kw15).trans rfl
      have kac : W15.cell? ⟨wb, 6, none⟩ = some (.slice A9 lc.length c9) := (cell_of_row _ _ 6 _ _ _ kw15).trans rfl
      have KW := Lib.hid kw15
      have KF := Lib.hid ((bE.block _ (show w.heap.size + 1 < W13.heap.size by omega)).trans F13.out)
      have KR15 := Lib.hid ((bE.block _ (show W12.heap.size < W13.heap.size by omega)).trans KR.out)
      have KS := Lib.hid ks
      have V9e := Lib.hid (V9.out.on (bE.mono (show W12.heap.size ≤ W13.heap.size by omega)))
      have V7e := Lib.hid (V7.out.on (bE.mono (show W12.heap.size ≤ W13.heap.size by omega)))
      have B15 := Lib.hid (B13.out.trans (bE.mono B13.out.size))
      have S15 := Lib.hid (show wb + 1 < W15.heap.size ∧ w.heap.size ≤ W15.heap.size ∧ w.heap.size + 1 < W15.heap.size ∧ W12.heap.size < W15.heap.size ∧ W13.heap.size < W15.heap.size from by
        have h1 := bE.size
        have h2 := (Array.getElem?_eq_some_iff.1 ks).1
        exact ⟨by omega, by omega, by omega, by omega, h2⟩)
      have C1 := Lib.hid (fun W => fBits_any v1 v1 W)
      rw [bits_self] at C1
      have C2 := Lib.hid (fun W => same_self rk rv ⟨#[]⟩ W)
      have C3 := Lib.hid (fun W => awake_any W)
      clear bE ks hS kw15 hW15 E13 F13 KM13 KW13 V9 V7 B13 KR S13
      go_wp2_with (first | refine ldP (k := 80) (ldSegW KW.out) rfl (by kernel_rfl) rfl rfl ?_ | refine ldP (k := 81) (run_loadVar_row _ (w.heap.size + 1) 57 57 _ (0, 0) _ KF.out Tryz.underlying57 rfl (by kernel_rfl)) rfl (by kernel_rfl) rfl rfl ?_)
      refine (C1.out _).mono ?_
      rintro e W16 ⟨rfl, b16⟩
      have hS := S15.out
      have kw16 := (b16.block _ (show wb < W15.heap.size by omega)).trans KW.out
      have kad : W16.cell? ⟨wb, 6, none⟩ = some (.slice A9 lc.length c9) := (cell_of_row _ _ 6 _ _ _ kw16).trans rfl
      have KW6 := Lib.hid kw16
      have KR6 := Lib.hid ((b16.block _ (show W12.heap.size < W15.heap.size by omega)).trans KR15.out)
      have KS6 := Lib.hid ((b16.block _ (show W13.heap.size < W15.heap.size by omega)).trans KS.out)
      have B16 := Lib.hid (B15.out.trans (b16.mono B15.out.size))
      have V9f := Lib.hid (V9e.out.on (b16.mono (by omega)))
      have V7f := Lib.hid (V7e.out.on (b16.mono (by omega)))
      have S16 := Lib.hid (show wb < W16.heap.size by have := b16.size; omega)
      have D16 := Lib.hid (show W12.heap.size < W16.heap.size by have := b16.size; omega)
      clear b16 hS kw16 kmc kfc kac KW KF KR15 KS B15 V9e V7e S15 C1
      go_wp2_with (first | refine ldP (k := 94) (run_loadVar_row _ W12.heap.size 63 63 _ (0, 0) _ KR6.out Tryz.underlying63 rfl (by kernel_rfl)) rfl (by kernel_rfl) rfl rfl ?_ | refine ldP (k := 95) (run_loadVar_row _ W13.heap.size 63 63 _ (0, 0) _ KS6.out Tryz.underlying63 rfl (by kernel_rfl)) rfl (by kernel_rfl) rfl rfl ?_)
      refine (C2.out _).mono ?_
      rintro e W17 ⟨rfl, b17⟩
      have KW7 := Lib.hid ((b17.block _ S16.out).trans KW6.out)
      have B17 := Lib.hid (B16.out.trans (b17.mono B16.out.size))
      have V9g := Lib.hid ((V9f.out.on (b17.mono (Nat.le_of_lt D16.out))))
      have V7g := Lib.hid ((V7f.out.on (b17.mono (Nat.le_of_lt D16.out))))
      have S17 := Lib.hid (show wb < W17.heap.size ∧ W12.heap.size ≤ W17.heap.size by have := b17.size; have := S16.out; have := D16.out; omega)
      clear b17 kad KR6 KS6 B16 V9f V7f S16 D16 KW6 C2
      go_wp2_with fail
      go_loopw [16] (fun v16 wr => ∃ k : Nat, v16 = .int .i64 (k : Nat) ∧ Hid (k ≤ lc.length) ∧ Hid (Below W17.heap.size W17 wr)) (fun v16 _ => ((lc.length : Int) - intOf v16).toNat)
      case atStart => exact ⟨0, rfl, Lib.hid (Nat.zero_le _), Lib.hid (Below.refl _ _)⟩
      case round =>
        obtain ⟨k, rfl, HK, HW⟩ := hrel
        by_cases hkn : k < lc.length
        · skip
          have hm' := HSZ2.out.1
          have t1 : decide ((k : Int) < (lc.length : Int)) = true := decide_eq_true (by omega)
          have t2 : (k : Int) < (lc.length : Int) := by omega
          have t3 : (0 : Int) ≤ (k : Int) := by omega
          have k1 : IntKind.i64.wrap ((k : Int) + 1) = ((k + 1 : Nat) : Int) := by rw [IntWalk.i64_in _ (by omega)]; omega
          obtain ⟨x, hx⟩ : ∃ x, lc[k]? = some x := ⟨_, List.getElem?_eq_getElem hkn⟩
          obtain ⟨b, o, hA, hbl, hat⟩ := V9g.out.at' (by rintro rfl; simp at hkn)
          obtain ⟨b', o', hA', hbl', hat'⟩ := V7g.out.at' (by rintro rfl; simp at hkn)
          subst hA
          subst hA'
          have hS := S17.out
          have CA := Lib.hid ((hat k x hx).on HW.out (by omega))
          have CB := Lib.hid ((hat' k x hx).on HW.out (by omega))
          have CW := Lib.hid ((cell_of_row _ _ 6 _ _ _ ((HW.out.block _ hS.1).trans KW7.out)).trans (show (celE 0 v1 (.slice (some ⟨b, o, none⟩) lc.length c9))[6]? = some (.slice (some ⟨b, o, none⟩) lc.length c9) from rfl))
          have HL := Lib.hid (show b < wr.heap.size ∧ b' < wr.heap.size ∧ wb < wr.heap.size by have := HW.out.size; omega)
          have HKN := Lib.hid hkn
          have C1 := Lib.hid (fun W => fBits_any x x W)
          rw [bits_self] at C1
          clear hx hkn hm' hat hat' hbl hbl' hS
          go_upto_region 24 with fail
          refine wp_region_held_drew (S := fun W => W.cell? ⟨wb, 6, none⟩ = some (.slice (some ⟨b, o, none⟩) lc.length c9) ∧ CelAt W b (o + k * 5) x ∧ CelAt W b' (o' + k * 5) x) (by kernel_rfl) ⟨CW.out, CA.out.on (Below.refl _ _).drew HL.out.1, CB.out.on (Below.refl _ _).drew HL.out.2.1⟩ (fun hHeld => ?_)
          refine take_s (i := 0) rfl (by kernel_rfl) (by kernel_rfl) (by kernel_rfl) (fun _ _ _ h => h) (Or.inl ⟨by rfl, by (intro w' hSw; go_simp; try with_reducible rfl)⟩) rfl (by assumption) ?_; simp only [lset]
          refine take_s (v := .slice (some ⟨b, o, none⟩) lc.length c9) (i := 1) rfl (by kernel_rfl) (by kernel_rfl) (by kernel_rfl) (fun _ _ _ h => h) (Or.inl ⟨by rfl, by (intro w' hSw; have c := hSw.1; go_simp)⟩) rfl (by assumption) ?_; simp only [lset]
          refine take_s (i := 2) rfl (by kernel_rfl) (by kernel_rfl) (by kernel_rfl) (fun _ _ _ h => h) (Or.inl ⟨by rfl, by (intro w' hSw; go_simp; try with_reducible rfl)⟩) rfl (by assumption) ?_; simp only [lset]
          refine take_s (v := .pointer (some ⟨b, o + k * 5, none⟩)) (i := 3) rfl (by kernel_rfl) (by kernel_rfl) (by kernel_rfl) (fun _ _ _ h => h) (Or.inl ⟨by rfl, by (intro w' hSw; go_simp; try with_reducible rfl)⟩) rfl (by assumption) ?_; simp only [lset]
          refine take_s (v := .agg (celX x)) (i := 4) rfl (by kernel_rfl) (by kernel_rfl) (by kernel_rfl) (fun _ _ _ h => h) (Or.inl ⟨by rfl, by (intro w' hSw; exact ldA_run hSw.2.1.ld rfl rfl)⟩) rfl (by assumption) ?_; simp only [lset]
          refine take_s (i := 5) rfl (by kernel_rfl) (by kernel_rfl) (by kernel_rfl) (fun _ _ _ h => h) (Or.inl ⟨by rfl, by (intro w' hSw; go_simp; try with_reducible rfl)⟩) rfl (by assumption) ?_; simp only [lset]
          refine take_s (i := 6) rfl (by kernel_rfl) (by kernel_rfl) (by kernel_rfl) (fun _ _ _ h => h) (Or.inl ⟨by rfl, by (intro w' hSw; go_simp; try with_reducible rfl)⟩) rfl (by assumption) ?_; simp only [lset]
          refine take_s (v := .pointer (some ⟨b', o' + k * 5, none⟩)) (i := 7) rfl (by kernel_rfl) (by kernel_rfl) (by kernel_rfl) (fun _ _ _ h => h) (Or.inl ⟨by rfl, by (intro w' hSw; go_simp; try with_reducible rfl)⟩) rfl (by assumption) ?_; simp only [lset]
          refine take_s (v := .agg (celX x)) (i := 8) rfl (by kernel_rfl) (by kernel_rfl) (by kernel_rfl) (fun _ _ _ h => h) (Or.inl ⟨by rfl, by (intro w' hSw; exact ldA_run hSw.2.2.ld rfl rfl)⟩) rfl (by assumption) ?_; simp only [lset]
          refine call_s (i := 9) (by kernel_rfl) rfl rfl (by rfl) (fun K hK => ?_)
          go_simp
          refine (C1.out _).mono ?_
          rintro e w2 ⟨rfl, b2⟩
          have B2 := Lib.hid (HW.out.trans (((Below.refl _ _).drew.trans b2).mono HW.out.size))
          have hHeld2 := And.intro ((World.cell?_of_block (b2.block _ HL.out.2.2)).trans CW.out) (And.intro (CA.out.on ((Below.refl _ _).drew.trans b2) HL.out.1) (CB.out.on ((Below.refl _ _).drew.trans b2) HL.out.2.1))
          refine hK.out _ _ hHeld2 ?_; clear hK K hHeld b2 C1 CA CB CW HL HW; simp only [lset]
          refine take_s (i := 10) rfl (by kernel_rfl) (by kernel_rfl) (by kernel_rfl) (fun _ _ _ h => h) (Or.inl ⟨by rfl, by (intro w' hSw; go_simp; try with_reducible rfl)⟩) rfl (by assumption) ?_; simp only [lset]
          refine wpAnyH_done (by kernel_rfl) ?_ _
          go_wp2_with fail
          go_roundw
          case rel => exact ⟨k + 1, by go_num, Lib.hid (by have := HKN.out; omega), B2⟩
          case measure => have := HKN.out; simp [intOf]; omega
        · skip
          have t1 : decide ((k : Int) < (lc.length : Int)) = false := decide_eq_false (by omega)
          have t2 : ¬ ((k : Int) < (lc.length : Int)) := by omega
          clear hkn
          go_wp2_with fail
          refine (C3.out _).mono ?_
          rintro e w3 ⟨rfl, b3⟩
          have B3 := Lib.hid (B17.out.trans ((HW.out.trans (b3.mono HW.out.size)).mono B17.out.size))
          go_wp2
          go_ret
          exact ⟨rfl, B3.out⟩
    · skip
      clear HEL HKE
      go_upto_region 19 with fail
      clear c14 E14
      have hg15 : W13.alloc (.cells (zD) 63) = W13.alloc (.cells (celD (outK 4) (outV 4 ve) ⟨#[]⟩) 63) := rfl
      rw [hg15]
      clear hg15
      obtain ⟨rk, hrk⟩ : ∃ rk, outK 4 = rk := ⟨_, rfl⟩
      obtain ⟨rv, hrv⟩ : ∃ rv, outV 4 ve = rv := ⟨_, rfl⟩
      rw [hrk, hrv] at KR ⊢
      clear hrk hrv
      have bE := below_a1 W13 (.cells (celD rk rv ⟨#[]⟩) 63)
      have ks := new1 W13 (celD rk rv ⟨#[]⟩) 63
      obtain ⟨W15, hW15⟩ : ∃ W15, W13.alloc (.cells (celD rk rv ⟨#[]⟩) 63) = W15 := ⟨_, rfl⟩
      rw [hW15] at bE ks ⊢
      have hS := S13.out
      have kmc : W15.cell? ⟨wb + 1, 0, none⟩ = some (.int .i64 1) := (cell_of_row _ _ 0 _ _ _ ((bE.block _ (by omega)).trans KM13.out)).trans rfl
      have kw15 := (bE.block _ (show wb < W13.heap.size by omega)).trans KW13.out
      have kfc : W15.cell? ⟨wb, 0, none⟩ = some (.int .i64 0) := (cell_of_row _ _ 0 _ _ _ kw15).trans rfl
      have kac : W15.cell? ⟨wb, 6, none⟩ = some (.slice A9 lc.length c9) := (cell_of_row _ _ 6 _ _ _ kw15).trans rfl
      have KW := Lib.hid kw15
      have KF := Lib.hid ((bE.block _ (show w.heap.size + 1 < W13.heap.size by omega)).trans F13.out)
      have KR15 := Lib.hid ((bE.block _ (show W12.heap.size < W13.heap.size by omega)).trans KR.out)
      have KS := Lib.hid ks
      have V9e := Lib.hid (V9.out.on (bE.mono (show W12.heap.size ≤ W13.heap.size by omega)))
      have V7e := Lib.hid (V7.out.on (bE.mono (show W12.heap.size ≤ W13.heap.size by omega)))
      have B15 := Lib.hid (B13.out.trans (bE.mono B13.out.size))
      have S15 := Lib.hid (show wb + 1 < W15.heap.size ∧ w.heap.size ≤ W15.heap.size ∧ w.heap.size + 1 < W15.heap.size ∧ W12.heap.size < W15.heap.size ∧ W13.heap.size < W15.heap.size from by
        have h1 := bE.size
        have h2 := (Array.getElem?_eq_some_iff.1 ks).1
        exact ⟨by omega, by omega, by omega, by omega, h2⟩)
      have C1 := Lib.hid (fun W => fBits_any v1 v1 W)
      rw [bits_self] at C1
      have C2 := Lib.hid (fun W => same_self rk rv ⟨#[]⟩ W)
      have C3 := Lib.hid (fun W => awake_any W)
      clear bE ks hS kw15 hW15 E13 F13 KM13 KW13 V9 V7 B13 KR S13
      go_wp2_with (first | refine ldP (k := 80) (ldSegW KW.out) rfl (by kernel_rfl) rfl rfl ?_ | refine ldP (k := 81) (run_loadVar_row _ (w.heap.size + 1) 57 57 _ (0, 0) _ KF.out Tryz.underlying57 rfl (by kernel_rfl)) rfl (by kernel_rfl) rfl rfl ?_)
      refine (C1.out _).mono ?_
      rintro e W16 ⟨rfl, b16⟩
      have hS := S15.out
      have kw16 := (b16.block _ (show wb < W15.heap.size by omega)).trans KW.out
      have kad : W16.cell? ⟨wb, 6, none⟩ = some (.slice A9 lc.length c9) := (cell_of_row _ _ 6 _ _ _ kw16).trans rfl
      have KW6 := Lib.hid kw16
      have KR6 := Lib.hid ((b16.block _ (show W12.heap.size < W15.heap.size by omega)).trans KR15.out)
      have KS6 := Lib.hid ((b16.block _ (show W13.heap.size < W15.heap.size by omega)).trans KS.out)
      have B16 := Lib.hid (B15.out.trans (b16.mono B15.out.size))
      have V9f := Lib.hid (V9e.out.on (b16.mono (by omega)))
      have V7f := Lib.hid (V7e.out.on (b16.mono (by omega)))
      have S16 := Lib.hid (show wb < W16.heap.size by have := b16.size; omega)
      have D16 := Lib.hid (show W12.heap.size < W16.heap.size by have := b16.size; omega)
      clear b16 hS kw16 kmc kfc kac KW KF KR15 KS B15 V9e V7e S15 C1
      go_wp2_with (first | refine ldP (k := 94) (run_loadVar_row _ W12.heap.size 63 63 _ (0, 0) _ KR6.out Tryz.underlying63 rfl (by kernel_rfl)) rfl (by kernel_rfl) rfl rfl ?_ | refine ldP (k := 95) (run_loadVar_row _ W13.heap.size 63 63 _ (0, 0) _ KS6.out Tryz.underlying63 rfl (by kernel_rfl)) rfl (by kernel_rfl) rfl rfl ?_)
      refine (C2.out _).mono ?_
      rintro e W17 ⟨rfl, b17⟩
      have KW7 := Lib.hid ((b17.block _ S16.out).trans KW6.out)
      have B17 := Lib.hid (B16.out.trans (b17.mono B16.out.size))
      have V9g := Lib.hid ((V9f.out.on (b17.mono (Nat.le_of_lt D16.out))))
      have V7g := Lib.hid ((V7f.out.on (b17.mono (Nat.le_of_lt D16.out))))
      have S17 := Lib.hid (show wb < W17.heap.size ∧ W12.heap.size ≤ W17.heap.size by have := b17.size; have := S16.out; have := D16.out; omega)
      clear b17 kad KR6 KS6 B16 V9f V7f S16 D16 KW6 C2
      go_wp2_with fail
      go_loopw [16] (fun v16 wr => ∃ k : Nat, v16 = .int .i64 (k : Nat) ∧ Hid (k ≤ lc.length) ∧ Hid (Below W17.heap.size W17 wr)) (fun v16 _ => ((lc.length : Int) - intOf v16).toNat)
      case atStart => exact ⟨0, rfl, Lib.hid (Nat.zero_le _), Lib.hid (Below.refl _ _)⟩
      case round =>
        obtain ⟨k, rfl, HK, HW⟩ := hrel
        by_cases hkn : k < lc.length
        · skip
          have hm' := HSZ2.out.1
          have t1 : decide ((k : Int) < (lc.length : Int)) = true := decide_eq_true (by omega)
          have t2 : (k : Int) < (lc.length : Int) := by omega
          have t3 : (0 : Int) ≤ (k : Int) := by omega
          have k1 : IntKind.i64.wrap ((k : Int) + 1) = ((k + 1 : Nat) : Int) := by rw [IntWalk.i64_in _ (by omega)]; omega
          obtain ⟨x, hx⟩ : ∃ x, lc[k]? = some x := ⟨_, List.getElem?_eq_getElem hkn⟩
          obtain ⟨b, o, hA, hbl, hat⟩ := V9g.out.at' (by rintro rfl; simp at hkn)
          obtain ⟨b', o', hA', hbl', hat'⟩ := V7g.out.at' (by rintro rfl; simp at hkn)
          subst hA
          subst hA'
          have hS := S17.out
          have CA := Lib.hid ((hat k x hx).on HW.out (by omega))
          have CB := Lib.hid ((hat' k x hx).on HW.out (by omega))
          have CW := Lib.hid ((cell_of_row _ _ 6 _ _ _ ((HW.out.block _ hS.1).trans KW7.out)).trans (show (celE 0 v1 (.slice (some ⟨b, o, none⟩) lc.length c9))[6]? = some (.slice (some ⟨b, o, none⟩) lc.length c9) from rfl))
          have HL := Lib.hid (show b < wr.heap.size ∧ b' < wr.heap.size ∧ wb < wr.heap.size by have := HW.out.size; omega)
          have HKN := Lib.hid hkn
          have C1 := Lib.hid (fun W => fBits_any x x W)
          rw [bits_self] at C1
          clear hx hkn hm' hat hat' hbl hbl' hS
          go_upto_region 24 with fail
          refine wp_region_held_drew (S := fun W => W.cell? ⟨wb, 6, none⟩ = some (.slice (some ⟨b, o, none⟩) lc.length c9) ∧ CelAt W b (o + k * 5) x ∧ CelAt W b' (o' + k * 5) x) (by kernel_rfl) ⟨CW.out, CA.out.on (Below.refl _ _).drew HL.out.1, CB.out.on (Below.refl _ _).drew HL.out.2.1⟩ (fun hHeld => ?_)
          refine take_s (i := 0) rfl (by kernel_rfl) (by kernel_rfl) (by kernel_rfl) (fun _ _ _ h => h) (Or.inl ⟨by rfl, by (intro w' hSw; go_simp; try with_reducible rfl)⟩) rfl (by assumption) ?_; simp only [lset]
          refine take_s (v := .slice (some ⟨b, o, none⟩) lc.length c9) (i := 1) rfl (by kernel_rfl) (by kernel_rfl) (by kernel_rfl) (fun _ _ _ h => h) (Or.inl ⟨by rfl, by (intro w' hSw; have c := hSw.1; go_simp)⟩) rfl (by assumption) ?_; simp only [lset]
          refine take_s (i := 2) rfl (by kernel_rfl) (by kernel_rfl) (by kernel_rfl) (fun _ _ _ h => h) (Or.inl ⟨by rfl, by (intro w' hSw; go_simp; try with_reducible rfl)⟩) rfl (by assumption) ?_; simp only [lset]
          refine take_s (v := .pointer (some ⟨b, o + k * 5, none⟩)) (i := 3) rfl (by kernel_rfl) (by kernel_rfl) (by kernel_rfl) (fun _ _ _ h => h) (Or.inl ⟨by rfl, by (intro w' hSw; go_simp; try with_reducible rfl)⟩) rfl (by assumption) ?_; simp only [lset]
          refine take_s (v := .agg (celX x)) (i := 4) rfl (by kernel_rfl) (by kernel_rfl) (by kernel_rfl) (fun _ _ _ h => h) (Or.inl ⟨by rfl, by (intro w' hSw; exact ldA_run hSw.2.1.ld rfl rfl)⟩) rfl (by assumption) ?_; simp only [lset]
          refine take_s (i := 5) rfl (by kernel_rfl) (by kernel_rfl) (by kernel_rfl) (fun _ _ _ h => h) (Or.inl ⟨by rfl, by (intro w' hSw; go_simp; try with_reducible rfl)⟩) rfl (by assumption) ?_; simp only [lset]
          refine take_s (i := 6) rfl (by kernel_rfl) (by kernel_rfl) (by kernel_rfl) (fun _ _ _ h => h) (Or.inl ⟨by rfl, by (intro w' hSw; go_simp; try with_reducible rfl)⟩) rfl (by assumption) ?_; simp only [lset]
          refine take_s (v := .pointer (some ⟨b', o' + k * 5, none⟩)) (i := 7) rfl (by kernel_rfl) (by kernel_rfl) (by kernel_rfl) (fun _ _ _ h => h) (Or.inl ⟨by rfl, by (intro w' hSw; go_simp; try with_reducible rfl)⟩) rfl (by assumption) ?_; simp only [lset]
          refine take_s (v := .agg (celX x)) (i := 8) rfl (by kernel_rfl) (by kernel_rfl) (by kernel_rfl) (fun _ _ _ h => h) (Or.inl ⟨by rfl, by (intro w' hSw; exact ldA_run hSw.2.2.ld rfl rfl)⟩) rfl (by assumption) ?_; simp only [lset]
          refine call_s (i := 9) (by kernel_rfl) rfl rfl (by rfl) (fun K hK => ?_)
          go_simp
          refine (C1.out _).mono ?_
          rintro e w2 ⟨rfl, b2⟩
          have B2 := Lib.hid (HW.out.trans (((Below.refl _ _).drew.trans b2).mono HW.out.size))
          have hHeld2 := And.intro ((World.cell?_of_block (b2.block _ HL.out.2.2)).trans CW.out) (And.intro (CA.out.on ((Below.refl _ _).drew.trans b2) HL.out.1) (CB.out.on ((Below.refl _ _).drew.trans b2) HL.out.2.1))
          refine hK.out _ _ hHeld2 ?_; clear hK K hHeld b2 C1 CA CB CW HL HW; simp only [lset]
          refine take_s (i := 10) rfl (by kernel_rfl) (by kernel_rfl) (by kernel_rfl) (fun _ _ _ h => h) (Or.inl ⟨by rfl, by (intro w' hSw; go_simp; try with_reducible rfl)⟩) rfl (by assumption) ?_; simp only [lset]
          refine wpAnyH_done (by kernel_rfl) ?_ _
          go_wp2_with fail
          go_roundw
          case rel => exact ⟨k + 1, by go_num, Lib.hid (by have := HKN.out; omega), B2⟩
          case measure => have := HKN.out; simp [intOf]; omega
        · skip
          have t1 : decide ((k : Int) < (lc.length : Int)) = false := decide_eq_false (by omega)
          have t2 : ¬ ((k : Int) < (lc.length : Int)) := by omega
          clear hkn
          go_wp2_with fail
          refine (C3.out _).mono ?_
          rintro e w3 ⟨rfl, b3⟩
          have B3 := Lib.hid (B17.out.trans ((HW.out.trans (b3.mono HW.out.size)).mono B17.out.size))
          go_wp2
          go_ret
          exact ⟨rfl, B3.out⟩
end Go.Proofs.YtmlgjijjkikkhaaGreatDoor
