/-
  The program's Check of any tree. The program's Check of a tree: the nodes, one by one. The program's Check of any tree: its contract.
-/
import Derived.Test.YtfpmhahjemdodaaGreatDoorMqar
import Derived.Test.YtfpmhahjemdodaaGreatDoorJ7
namespace Go.Proofs.YtfpmhahjemdodaaGreatDoor
open Go.RowKit Go.Shelf
attribute [local go_sem] Oper.semAt_some
attribute [local go_sem] stFl hmf
theorem results_cell_one {fn : Func} {p : Tmp} {ty : TypeId} (h : fn.results = #[.cell p ty]) (tmps : Array Value) (P : Program) (w : World) (a : Addr) (v : Value) (ha : tmps.getD p undef = .pointer (some a)) (hl : (loadVar ty a).run P w = .ok v w) : (results fn tmps).run P w = .ok v w := by
  simp only [results, h]
  simp [-Array.getD_eq_getD_getElem?, ha, asAddr, hl]
theorem load_err {w : World} {a : Addr} {n : Int} (h : w.cell? a = some (.int .i64 n)) : (loadVar 32 a).run Tryz.prog w = .ok (.int .i64 n) w := by
  go_simp
/-- Behind the measure. -/
theorem two_kept {w w3 : World} {X Y : Obj} (b3 : Below ((w.alloc X).alloc Y).heap.size ((w.alloc X).alloc Y) w3) : w3.heap[w.heap.size]? = some X ∧ w3.heap[w.heap.size + 1]? = some Y ∧ Below w.heap.size w w3 ∧ w.heap.size + 2 ≤ w3.heap.size := by
  have hz : ((w.alloc X).alloc Y).heap.size = w.heap.size + 2 := by simp
  have hz1 : (w.alloc X).heap.size = w.heap.size + 1 := by simp
  have hb : Below w.heap.size w ((w.alloc X).alloc Y) := ((Below.refl _ _).alloc (Nat.le_refl _) X).alloc (by omega) Y
  have hs := b3.size
  refine ⟨?_, ?_, hb.trans (b3.mono (by omega)), by omega⟩
  · rw [b3.block _ (by omega), Below.heap_alloc _ _ _ (by omega)]
    exact World.alloc_heap_new _ _
  · rw [b3.block _ (by omega), ← hz1]
    exact World.alloc_heap_new _ _
set_option maxRecDepth 100000 in
set_option maxHeartbeats 4000000 in
theorem Check_no1 {nmd rsv : ByteArray → Bool} (_hL : Lx nmd rsv) (t : Tn) (cs : List Value) (w : World) (ht : At (fun b => b < w.heap.size) w t cs) (_hF : Fit t) (h24 : t.size ≤ 4398046511103) (hno : kd t ≠ 40) :
    Calls Tryz.prog 16 #[.agg cs.toArray] w fun e w' => e = .returned (.int .i64 70) ∧ Below w.heap.size w w' := by
  obtain ⟨s, rfl, hS⟩ := at_parts ht
  obtain ⟨A6, c6, rfl, -, -⟩ := hS
  have CM := Lib.hid (fun (X Y : Obj) => measure_any t _ ((w.alloc X).alloc Y) ((ht.keep (Same.below (((Below.refl _ _).alloc (Nat.le_refl _) X).alloc (by simp) Y)) _ _).imp (fun b hb => by simp only [World.size_alloc]; omega) _ _) h24)
  obtain ⟨sz, dp, hR⟩ : ∃ sz dp : Nat, (if 1048576 < t.size then (#[.int .i64 0, .int .i64 0] : Array Value) else #[.int .i64 (t.size : Nat), .int .i64 (t.depth : Nat)]) = #[.int .i64 sz, .int .i64 dp] ∧ (sz = 0 ↔ 1048576 < t.size) ∧ (sz ≠ 0 → dp = t.depth) := by
    have hs : 1 ≤ t.size := by rw [Tr.size_eq]; omega
    by_cases h : 1048576 < t.size
    · exact ⟨0, 0, by rw [if_pos h]; rfl, by omega, by omega⟩
    · exact ⟨t.size, t.depth, by rw [if_neg h], by omega, fun _ => rfl⟩
  have HR := Lib.hid hR.2
  have CM : Hid (∀ X Y, Calls Tryz.prog 9 #[.agg (celN t.datum (.slice A6 t.kids.length c6)).toArray] ((w.alloc X).alloc Y) fun e w' => e = .returned (.tuple #[.int .i64 sz, .int .i64 dp]) ∧ Below ((w.alloc X).alloc Y).heap.size ((w.alloc X).alloc Y) w') := Lib.hid fun X Y => by
    have := CM.out X Y
    rw [hR.1] at this
    exact this
  unfold celN at CM
  clear hR
  have HT := Lib.hid ht
  clear ht
  refine (callsIn_wide (n := 0)).1 ?_
  refine callsIn_of_wp_marks Tryz.func16 rfl trivial ?_ rfl
  simp only [Tryz.ntmps16, List.size_toArray, List.length_cons, List.length_nil, Nat.reduceAdd, Nat.reduceSub, Array.replicate_succ, Array.replicate_zero, List.push_toArray, List.append_toArray, List.nil_append, List.cons_append, celN]
  obtain ⟨d, hd⟩ : ∃ d, t.datum = d := ⟨_, rfl⟩
  have hk : ¬ d.k = 40 := by rw [← hd]; exact hno
  rw [hd] at CM ⊢
  gi_wp2
  refine ⟨trivial, rfl, (callsIn_wide.2 (CM.out _ _)).mono ?_⟩
  rintro e w3 ⟨rfl, b3⟩
  obtain ⟨h0, h1, h2, h3⟩ := two_kept b3
  have B3 := Lib.hid h2
  have S3 := Lib.hid h3
  have H1 := Lib.hid h1
  have H0 := Lib.hid h0
  have c0 : w3.cell? ⟨w.heap.size, 0, none⟩ = some (.int .i64 d.k) := cell_of_row _ _ 0 _ _ _ h0
  obtain ⟨c8, c9⟩ := cell1 h1
  clear h0 h1 h2 h3 b3
  gi_wp2
  have e9 : (w3.setCell ⟨w.heap.size + 1, 0, none⟩ (.int .i64 70)).heap[w.heap.size + 1]? = some (.cells #[.int .i64 70] 32 (0, 0)) := heap_set1 _ H1.out
  refine ⟨_, results_cell_one rfl _ _ _ _ _ rfl (load_err (cell1 e9).1), rfl, B3.out.setCell (p := ⟨w.heap.size + 1, 0, none⟩) (Nat.le_succ _) _⟩
set_option maxRecDepth 100000 in
set_option maxHeartbeats 4000000 in
theorem Check_no2 {nmd rsv : ByteArray → Bool} (_hL : Lx nmd rsv) (t : Tn) (cs : List Value) (w : World) (ht : At (fun b => b < w.heap.size) w t cs) (_hF : Fit t) (h24 : t.size ≤ 4398046511103) (h40 : kd t = 40) (hno : Hid (1048576 < t.size)) :
    Calls Tryz.prog 16 #[.agg cs.toArray] w fun e w' => e = .returned (.int .i64 70) ∧ Below w.heap.size w w' := by
  obtain ⟨s, rfl, hS⟩ := at_parts ht
  obtain ⟨A6, c6, rfl, -, -⟩ := hS
  have CM := Lib.hid (fun (X Y : Obj) => measure_any t _ ((w.alloc X).alloc Y) ((ht.keep (Same.below (((Below.refl _ _).alloc (Nat.le_refl _) X).alloc (by simp) Y)) _ _).imp (fun b hb => by simp only [World.size_alloc]; omega) _ _) h24)
  obtain ⟨sz, dp, hR⟩ : ∃ sz dp : Nat, (if 1048576 < t.size then (#[.int .i64 0, .int .i64 0] : Array Value) else #[.int .i64 (t.size : Nat), .int .i64 (t.depth : Nat)]) = #[.int .i64 sz, .int .i64 dp] ∧ (sz = 0 ↔ 1048576 < t.size) ∧ (sz ≠ 0 → dp = t.depth) := by
    have hs : 1 ≤ t.size := by rw [Tr.size_eq]; omega
    by_cases h : 1048576 < t.size
    · exact ⟨0, 0, by rw [if_pos h]; rfl, by omega, by omega⟩
    · exact ⟨t.size, t.depth, by rw [if_neg h], by omega, fun _ => rfl⟩
  have HR := Lib.hid hR.2
  have CM : Hid (∀ X Y, Calls Tryz.prog 9 #[.agg (celN t.datum (.slice A6 t.kids.length c6)).toArray] ((w.alloc X).alloc Y) fun e w' => e = .returned (.tuple #[.int .i64 sz, .int .i64 dp]) ∧ Below ((w.alloc X).alloc Y).heap.size ((w.alloc X).alloc Y) w') := Lib.hid fun X Y => by
    have := CM.out X Y
    rw [hR.1] at this
    exact this
  unfold celN at CM
  clear hR
  have HT := Lib.hid ht
  clear ht
  refine (callsIn_wide (n := 0)).1 ?_
  refine callsIn_of_wp_marks Tryz.func16 rfl trivial ?_ rfl
  simp only [Tryz.ntmps16, List.size_toArray, List.length_cons, List.length_nil, Nat.reduceAdd, Nat.reduceSub, Array.replicate_succ, Array.replicate_zero, List.push_toArray, List.append_toArray, List.nil_append, List.cons_append, celN]
  obtain ⟨d, hd⟩ : ∃ d, t.datum = d := ⟨_, rfl⟩
  have hkb : (d.k != 40) = false := by rw [bne_eq_false_iff_eq, ← hd]; exact h40
  have hz : sz = 0 := HR.out.1.2 hno.out
  subst hz
  clear hno h40 h24 _hF
  rw [hd] at CM ⊢
  gi_wp2
  refine ⟨trivial, rfl, (callsIn_wide.2 (CM.out _ _)).mono ?_⟩
  rintro e w3 ⟨rfl, b3⟩
  obtain ⟨h0, h1, h2, h3⟩ := two_kept b3
  have B3 := Lib.hid h2
  have S3 := Lib.hid h3
  have H1 := Lib.hid h1
  have H0 := Lib.hid h0
  have c0 : w3.cell? ⟨w.heap.size, 0, none⟩ = some (.int .i64 d.k) := cell_of_row _ _ 0 _ _ _ h0
  obtain ⟨c8, c9⟩ := cell1 h1
  clear h0 h1 h2 h3 b3
  gi_wp2
  have e9 : (w3.setCell ⟨w.heap.size + 1, 0, none⟩ (.int .i64 70)).heap[w.heap.size + 1]? = some (.cells #[.int .i64 70] 32 (0, 0)) := heap_set1 _ H1.out
  refine ⟨_, results_cell_one rfl _ _ _ _ _ rfl (load_err (cell1 e9).1), rfl, B3.out.setCell (p := ⟨w.heap.size + 1, 0, none⟩) (Nat.le_succ _) _⟩
set_option maxRecDepth 100000 in
set_option maxHeartbeats 4000000 in
theorem Check_no3 {nmd rsv : ByteArray → Bool} (_hL : Lx nmd rsv) (t : Tn) (cs : List Value) (w : World) (ht : At (fun b => b < w.heap.size) w t cs) (_hF : Fit t) (h24 : t.size ≤ 4398046511103) (h40 : kd t = 40) (hle : Hid (t.size ≤ 1048576)) (hno : Hid (65536 < t.depth)) :
    Calls Tryz.prog 16 #[.agg cs.toArray] w fun e w' => e = .returned (.int .i64 70) ∧ Below w.heap.size w w' := by
  obtain ⟨s, rfl, hS⟩ := at_parts ht
  obtain ⟨A6, c6, rfl, -, -⟩ := hS
  have CM := Lib.hid (fun (X Y : Obj) => measure_any t _ ((w.alloc X).alloc Y) ((ht.keep (Same.below (((Below.refl _ _).alloc (Nat.le_refl _) X).alloc (by simp) Y)) _ _).imp (fun b hb => by simp only [World.size_alloc]; omega) _ _) h24)
  obtain ⟨sz, dp, hR⟩ : ∃ sz dp : Nat, (if 1048576 < t.size then (#[.int .i64 0, .int .i64 0] : Array Value) else #[.int .i64 (t.size : Nat), .int .i64 (t.depth : Nat)]) = #[.int .i64 sz, .int .i64 dp] ∧ (sz = 0 ↔ 1048576 < t.size) ∧ (sz ≠ 0 → dp = t.depth) := by
    have hs : 1 ≤ t.size := by rw [Tr.size_eq]; omega
    by_cases h : 1048576 < t.size
    · exact ⟨0, 0, by rw [if_pos h]; rfl, by omega, by omega⟩
    · exact ⟨t.size, t.depth, by rw [if_neg h], by omega, fun _ => rfl⟩
  have HR := Lib.hid hR.2
  have CM : Hid (∀ X Y, Calls Tryz.prog 9 #[.agg (celN t.datum (.slice A6 t.kids.length c6)).toArray] ((w.alloc X).alloc Y) fun e w' => e = .returned (.tuple #[.int .i64 sz, .int .i64 dp]) ∧ Below ((w.alloc X).alloc Y).heap.size ((w.alloc X).alloc Y) w') := Lib.hid fun X Y => by
    have := CM.out X Y
    rw [hR.1] at this
    exact this
  unfold celN at CM
  clear hR
  have HT := Lib.hid ht
  clear ht
  refine (callsIn_wide (n := 0)).1 ?_
  refine callsIn_of_wp_marks Tryz.func16 rfl trivial ?_ rfl
  simp only [Tryz.ntmps16, List.size_toArray, List.length_cons, List.length_nil, Nat.reduceAdd, Nat.reduceSub, Array.replicate_succ, Array.replicate_zero, List.push_toArray, List.append_toArray, List.nil_append, List.cons_append, celN]
  obtain ⟨d, hd⟩ : ∃ d, t.datum = d := ⟨_, rfl⟩
  have hkb : (d.k != 40) = false := by rw [bne_eq_false_iff_eq, ← hd]; exact h40
  have hz : sz ≠ 0 := fun h => absurd (HR.out.1.1 h) (Nat.not_lt.2 hle.out)
  have hz1 : ¬ (sz : Int) = 0 := by omega
  have hdp : dp = t.depth := HR.out.2 hz
  have hdp1 : (65536 : Int) < (dp : Int) := by rw [hdp]; exact Int.ofNat_lt.2 hno.out

  clear hdp hz hno hle h40 h24 _hF
  rw [hd] at CM ⊢
  gi_wp2
  refine ⟨trivial, rfl, (callsIn_wide.2 (CM.out _ _)).mono ?_⟩
  rintro e w3 ⟨rfl, b3⟩
  obtain ⟨h0, h1, h2, h3⟩ := two_kept b3
  have B3 := Lib.hid h2
  have S3 := Lib.hid h3
  have H1 := Lib.hid h1
  have H0 := Lib.hid h0
  have c0 : w3.cell? ⟨w.heap.size, 0, none⟩ = some (.int .i64 d.k) := cell_of_row _ _ 0 _ _ _ h0
  obtain ⟨c8, c9⟩ := cell1 h1
  clear h0 h1 h2 h3 b3
  gi_wp2
  have e9 : (w3.setCell ⟨w.heap.size + 1, 0, none⟩ (.int .i64 70)).heap[w.heap.size + 1]? = some (.cells #[.int .i64 70] 32 (0, 0)) := heap_set1 _ H1.out
  refine ⟨_, results_cell_one rfl _ _ _ _ _ rfl (load_err (cell1 e9).1), rfl, B3.out.setCell (p := ⟨w.heap.size + 1, 0, none⟩) (Nat.le_succ _) _⟩
end Go.Proofs.YtfpmhahjemdodaaGreatDoor
namespace Go.Proofs.YtfpmhahjemdodaaGreatDoor
open Go.RowKit Go.Shelf
attribute [local go_sem] Oper.semAt_some
attribute [local go_sem] stFl hmf
theorem broken {nmd rsv : ByteArray → Bool} {t x : Tn} {k kk : Nat} {R : Int} (hR : (if Tr.every (fun x => hld (shp nmd rsv (kd x).toNat) x) t then (0 : Int) else 70) = R) (hx : (Tr.all t t.depth)[k]? = some x) (hk : (kd x).toNat = kk) (hb : hld (shp nmd rsv kk) x = false) : R = 70 := by
  rw [← hR, if_neg]
  rw [Tr.every_all, List.all_eq_true]
  intro h
  have := h x (List.mem_of_getElem? hx)
  rw [hk, hb] at this
  cases this
theorem held {nmd rsv : ByteArray → Bool} {t x : Tn} {k kk : Nat} (h : ∀ j x, j < k → (Tr.all t t.depth)[j]? = some x → hld (shp nmd rsv (kd x).toNat) x = true) (hx : (Tr.all t t.depth)[k]? = some x) (hk : (kd x).toNat = kk) (hb : hld (shp nmd rsv kk) x = true) :
    ∀ j x, j < k + 1 → (Tr.all t t.depth)[j]? = some x → hld (shp nmd rsv (kd x).toNat) x = true := by
  intro j y hj hy
  rcases Nat.lt_or_ge j k with h1 | h1
  · exact h j y h1 hy
  · obtain rfl : j = k := by omega
    obtain rfl : x = y := Option.some.inj (hx.symm.trans hy)
    rw [hk]
    exact hb
/-- Behind k nodes. -/
structure ChI (nmd rsv : ByteArray → Bool) (t : Tn) (w6 : World) (k : Nat) (W : World) : Prop where
  ok : ∀ j x, j < k → (Tr.all t t.depth)[j]? = some x → hld (shp nmd rsv (kd x).toNat) x = true
  b : Below w6.heap.size w6 W
theorem ChI.on {nmd rsv : ByteArray → Bool} {t : Tn} {w6 A B : World} {k : Nat} (h : ChI nmd rsv t w6 k A) (hb : Below w6.heap.size A B) : ChI nmd rsv t w6 k B := ⟨h.ok, h.b.trans hb⟩
/-- At a node that breaks the table. -/
structure ChX (w : World) (R : Int) (W : World) : Prop where
  r : R = 70
  c : W.heap[w.heap.size + 1]? = some (.cells #[.int .i64 70] 32 (0, 0))
  b : Below w.heap.size w W
theorem ChX.on {w A B : World} {R : Int} (h : ChX w R A) (hb : Below (w.heap.size + 2) A B) : ChX w R B := ⟨h.r, (hb.block _ (by omega)).trans h.c, h.b.trans (hb.mono (by omega))⟩
set_option maxRecDepth 100000 in
set_option maxHeartbeats 4000000 in
theorem Check_all {nmd rsv : ByteArray → Bool} (hL : Lx nmd rsv) (t : Tn) (cs : List Value) (w : World) (ht : At (fun b => b < w.heap.size) w t cs) (hF : Fit t) (h24 : t.size ≤ 4398046511103) (h40 : kd t = 40) (hle : Hid (t.size ≤ 1048576)) (hno : Hid (t.depth ≤ 65536)) :
    Calls Tryz.prog 16 #[.agg cs.toArray] w fun e w' => e = .returned (.int .i64 (if Tr.every (fun x => hld (shp nmd rsv (kd x).toNat) x) t then 0 else 70)) ∧ Below w.heap.size w w' := by
  obtain ⟨s, rfl, hS⟩ := at_parts ht
  obtain ⟨A6, c6, rfl, -, -⟩ := hS
  have CM := Lib.hid (fun (X Y : Obj) => measure_any t _ ((w.alloc X).alloc Y) ((ht.keep (Same.below (((Below.refl _ _).alloc (Nat.le_refl _) X).alloc (by simp) Y)) _ _).imp (fun b hb => by simp only [World.size_alloc]; omega) _ _) h24)
  obtain ⟨sz, dp, hR⟩ : ∃ sz dp : Nat, (if 1048576 < t.size then (#[.int .i64 0, .int .i64 0] : Array Value) else #[.int .i64 (t.size : Nat), .int .i64 (t.depth : Nat)]) = #[.int .i64 sz, .int .i64 dp] ∧ (sz = 0 ↔ 1048576 < t.size) ∧ (sz ≠ 0 → dp = t.depth) := by
    have hs : 1 ≤ t.size := by rw [Tr.size_eq]; omega
    by_cases h : 1048576 < t.size
    · exact ⟨0, 0, by rw [if_pos h]; rfl, by omega, by omega⟩
    · exact ⟨t.size, t.depth, by rw [if_neg h], by omega, fun _ => rfl⟩
  have HR := Lib.hid hR.2
  have CM : Hid (∀ X Y, Calls Tryz.prog 9 #[.agg (celN t.datum (.slice A6 t.kids.length c6)).toArray] ((w.alloc X).alloc Y) fun e w' => e = .returned (.tuple #[.int .i64 sz, .int .i64 dp]) ∧ Below ((w.alloc X).alloc Y).heap.size ((w.alloc X).alloc Y) w') := Lib.hid fun X Y => by
    have := CM.out X Y
    rw [hR.1] at this
    exact this
  unfold celN at CM
  clear hR
  have HT := Lib.hid ht
  clear ht
  refine (callsIn_wide (n := 0)).1 ?_
  refine callsIn_of_wp_marks Tryz.func16 rfl trivial ?_ rfl
  simp only [Tryz.ntmps16, List.size_toArray, List.length_cons, List.length_nil, Nat.reduceAdd, Nat.reduceSub, Array.replicate_succ, Array.replicate_zero, List.push_toArray, List.append_toArray, List.nil_append, List.cons_append, celN]
  obtain ⟨R, hRR⟩ : ∃ R : Int, (if Tr.every (fun x => hld (shp nmd rsv (kd x).toNat) x) t then (0 : Int) else 70) = R := ⟨_, rfl⟩
  rw [hRR]
  have HRR := Lib.hid hRR
  clear hRR
  obtain ⟨d, hd⟩ : ∃ d, t.datum = d := ⟨_, rfl⟩
  have hkb : (d.k != 40) = false := by rw [bne_eq_false_iff_eq, ← hd]; exact h40
  have hz : sz ≠ 0 := fun h => absurd (HR.out.1.1 h) (Nat.not_lt.2 hle.out)
  have hz1 : ((sz : Int) == 0) = false := by rw [beq_eq_false_iff_ne]; omega
  have hdp : dp = t.depth := HR.out.2 hz
  have hdp1 : ¬ (65536 : Int) < (dp : Int) := by rw [hdp]; have := hno.out; omega
  have HL := Lib.hid hL
  have H24 := Lib.hid h24
  have HF := Lib.hid hF
  have H40 := Lib.hid h40
  clear hdp hz hno hle h24 hF hL h40
  rw [hd] at CM ⊢
  gi_wp2
  refine ⟨trivial, rfl, (callsIn_wide.2 (CM.out _ _)).mono ?_⟩
  rintro e w3 ⟨rfl, b3⟩
  obtain ⟨h0, h1, h2, h3⟩ := two_kept b3
  have B3 := Lib.hid h2
  have S3 := Lib.hid h3
  have H1 := Lib.hid h1
  have H0 := Lib.hid h0
  have c0 : w3.cell? ⟨w.heap.size, 0, none⟩ = some (.int .i64 d.k) := cell_of_row _ _ 0 _ _ _ h0
  obtain ⟨c8, c9⟩ := cell1 h1
  clear h0 h1 h2 h3 b3
  gi_wp2
  refine ⟨trivial, rfl, (callsIn_wide.2 (ashapes_any HL.out w3)).mono ?_⟩
  rintro e w4 ⟨bt, rfl, hbt, hTab, b4⟩
  have HTab := Lib.hid hTab
  have HBT := Lib.hid hbt
  have h0 := (b4.block _ (by have := S3.out; omega)).trans H0.out
  have n0 : (w4.alloc (.cells #[.slice (some ⟨bt, 0, none⟩) 63 63] 56)).cell? ⟨w.heap.size, 0, none⟩ = some (.int .i64 d.k) := cell_push _ (cell_of_row _ _ 0 _ _ _ h0)
  have n1 : (w4.alloc (.cells #[.slice (some ⟨bt, 0, none⟩) 63 63] 56)).cell? ⟨w.heap.size, 1, none⟩ = some (.string d.op) := cell_push _ (cell_of_row _ _ 1 _ _ _ h0)
  have n2 : (w4.alloc (.cells #[.slice (some ⟨bt, 0, none⟩) 63 63] 56)).cell? ⟨w.heap.size, 2, none⟩ = some (.string d.st) := cell_push _ (cell_of_row _ _ 2 _ _ _ h0)
  have n3 : (w4.alloc (.cells #[.slice (some ⟨bt, 0, none⟩) 63 63] 56)).cell? ⟨w.heap.size, 3, none⟩ = some (.float .f64 d.nm) := cell_push _ (cell_of_row _ _ 3 _ _ _ h0)
  have n4 : (w4.alloc (.cells #[.slice (some ⟨bt, 0, none⟩) 63 63] 56)).cell? ⟨w.heap.size, 4, none⟩ = some (.bool d.fl) := cell_push _ (cell_of_row _ _ 4 _ _ _ h0)
  have n5 : (w4.alloc (.cells #[.slice (some ⟨bt, 0, none⟩) 63 63] 56)).cell? ⟨w.heap.size, 5, none⟩ = some (.slice A6 t.kids.length c6) := cell_push _ (cell_of_row _ _ 5 _ _ _ h0)
  have n6 : (w4.alloc (.cells #[.slice (some ⟨bt, 0, none⟩) 63 63] 56)).cell? ⟨w.heap.size, 6, none⟩ = some (.int .i64 d.ps) := cell_push _ (cell_of_row _ _ 6 _ _ _ h0)
  have B4 := Lib.hid (B3.out.trans (b4.mono (by have := S3.out; omega)))
  have S4 := Lib.hid (Nat.le_trans S3.out b4.size)
  have H14 := Lib.hid ((b4.block _ (by have := S3.out; omega)).trans H1.out)
  clear h0 b4 hbt hTab c0 c8 c9 H0 H1
  have CN := Lib.hid (nodes_any d (.slice A6 t.kids.length c6) (w4.alloc (.cells #[.slice (some ⟨bt, 0, none⟩) 63 63] 56)))
  unfold nodV celN at CN
  gi_wp2
  refine ⟨trivial, rfl, (callsIn_wide.2 CN.out).mono ?_⟩
  rintro e w6 ⟨rfl, hq6⟩
  have hw6 := hq6.symm
  clear hq6 n0 n1 n2 n3 n4 n5 n6 CN
  have hz5 : (w4.alloc (.cells #[.slice (some ⟨bt, 0, none⟩) 63 63] 56)).heap.size = w4.heap.size + 1 := by simp
  have hz6 : w6.heap.size = w4.heap.size + 2 := by rw [← hw6]; simp
  have b45 : Below w4.heap.size w4 (w4.alloc (.cells #[.slice (some ⟨bt, 0, none⟩) 63 63] 56)) := b1 _
  have b56 : Below (w4.heap.size + 1) (w4.alloc (.cells #[.slice (some ⟨bt, 0, none⟩) 63 63] 56)) w6 := by rw [← hz5, ← hw6]; exact b1 _
  have b46 : Below w4.heap.size w4 w6 := b45.trans (b56.mono (by omega))
  have eA : w6.heap[w4.heap.size]? = some (.cells #[.slice (some ⟨bt, 0, none⟩) 63 63] 56 (0, 0)) := (b56.block _ (by omega)).trans (World.alloc_heap_new _ _)
  have eN : w6.heap[w4.heap.size + 1]? = some (.cells (celN t.datum (.slice A6 t.kids.length c6)).toArray 25 (0, 0)) := by rw [hd, ← hw6, ← hz5]; exact World.alloc_heap_new _ _
  have e1 : w6.heap[w.heap.size + 1]? = some (.cells #[.int .i64 0] 32 (0, 0)) := (b46.block _ (by have := S4.out; omega)).trans H14.out
  have hw : Below w.heap.size w w6 := B4.out.trans (b46.mono (by have := S4.out; omega))
  have hT6 := Lib.hid (HTab.out.on b46)
  have hS4 := S4.out
  have hit := nodes_itr (n := w.heap.size) (Bn := w4.heap.size + 1) (t := t) (w := w6) (by omega) eN (At.keep (Same.below hw) _ _ HT.out) H24.out
  have hI0 : ChI nmd rsv t w6 0 w6 := ⟨fun j x h => by omega, Below.refl _ _⟩
  have E1 := Lib.hid e1
  have EA := Lib.hid eA
  have HW := Lib.hid hw
  clear hw6 hz5 b45 b56 b46 eA eN e1 hw
  rw [show (w4.alloc (.cells #[.slice (some ⟨bt, 0, none⟩) 63 63] 56)).heap.size = w4.heap.size + 1 by simp]
  gi_wp2
  refine wp_range2 (gf := 34) (lb := #[.pointer (some ⟨w4.heap.size + 1, 0, none⟩)]) rfl (enters_of Tryz.func34 (by kernel_rfl) rfl) hit (Below.refl _ _) (by omega) (fun k A B v h hk => nodX_keep h hk)
    (ChI nmd rsv t w6) (fun c _ W => c = .ret ∧ ChX w R W) (fun k A B h _ hb => h.on hb) (fun c k A B h _ hb => ⟨h.1, h.2.on (hb.mono (by omega))⟩) hI0
    (fun v Wo => { tmps := #[.agg #[.int .i64 d.k, .string d.op, .string d.st, .float .f64 d.nm, .bool d.fl, .slice A6 t.kids.length c6, .int .i64 d.ps], .pointer (some ⟨w.heap.size, 0, none⟩), .pointer (some ⟨w.heap.size + 1, 0, none⟩), .int .i64 sz, .int .i64 dp, .pointer (some ⟨w4.heap.size, 0, none⟩), .pointer (some ⟨Wo.heap.size, 0, none⟩), .tuple #[.int .i64 sz, .int .i64 dp],
      .agg #[.int .i64 d.k, .string d.op, .string d.st, .float .f64 d.nm, .bool d.fl, .slice A6 t.kids.length c6, .int .i64 d.ps], .tuple #[.int .i64 sz, .int .i64 dp], .int .i64 sz, .int .i64 dp, .pointer (some ⟨w.heap.size, 0, none⟩), .int .i64 d.k, .bool false, .bool false, .int .i64 sz, .bool false, .bool false, .bool false, .int .i64 dp, .bool (decide ((65536 : Int) < dp)), .bool (decide ((65536 : Int) < dp)),
      .slice (some ⟨bt, 0, none⟩) 63 63, .agg #[.int .i64 d.k, .string d.op, .string d.st, .float .f64 d.nm, .bool d.fl, .slice A6 t.kids.length c6, .int .i64 d.ps], .func (.func 34) #[] #[.pointer (some ⟨w4.heap.size + 1, 0, none⟩)], v, undef, undef, undef, undef, undef, undef, undef, undef], defers := [] })
    (fun v Wo => Wo.alloc (.cells v.cells 25)) (fun v Wo => b1 _) ?assign ?body ?done ?stop
  case assign =>
    rintro l k v W K ⟨x, sl, q, hx1, rfl, hq, hx2⟩ hK
    obtain ⟨A', c', rfl, -, -⟩ := hx2
    unfold nodV at hK ⊢
    clear hit hI0
    gi_wp2
    exact hK
  case body =>
    rintro l k v Wo W hk ⟨hI1, hI2⟩ hso hkp ⟨x, sl, q, hx1, rfl, hq, hx2⟩
    obtain ⟨A', c', rfl, hml, hne⟩ := id hx2
    have HX2 := Lib.hid hx2
    have HI1 := Lib.hid hI1
    have HI2 := Lib.hid hI2
    have HKP := Lib.hid hkp
    -- the node's Kind
    have hkr : 0 ≤ kd x ∧ kd x < 63 := by
      rcases all_par hx1 with rfl | ⟨j, y, h1, h2, h3⟩
      · rw [H40.out]; omega
      · exact hld_kids (hI1 j y h1 h2) x h3
    obtain ⟨kk, hkk⟩ : ∃ kk : Nat, x.datum.k = (kk : Int) := ⟨(kd x).toNat, by have := hkr.1; unfold kd at *; omega⟩
    have hkt : (kd x).toNat = kk := by unfold kd; omega
    have hk63 : kk < 63 := by have := hkr.2; unfold kd at this; omega
    have hkz : (kk : Int) < 63 := by omega
    have hk0 : (0 : Int) ≤ (kk : Int) := by omega
    obtain ⟨vs, hr, hsv⟩ := (hT6.out.on hI2).ent kk hk63
    have C1 := fun W' (hb : Below W.heap.size W W') => holds_any x A' c' vs (shp nmd rsv kk) _ W' (hsv.abv (Abv.of hb)) (hx2.keep (fun b _ hl => hb.block b hl)) (all_fit HF.out k hx1)
    obtain ⟨B, hB⟩ : ∃ B, hld (shp nmd rsv kk) x = B := ⟨_, rfl⟩
    rw [hB] at C1
    obtain ⟨v0, v1, v2, v3, v4, rfl, -, -, -, -, -⟩ := hsv
    have t0 : W.cell? ⟨bt, kk * 5, none⟩ = some v0 := hr 0 _ rfl
    have t1 : W.cell? ⟨bt, kk * 5 + 1, none⟩ = some v1 := hr 1 _ rfl
    have t2 : W.cell? ⟨bt, kk * 5 + 2, none⟩ = some v2 := hr 2 _ rfl
    have t3 : W.cell? ⟨bt, kk * 5 + 3, none⟩ = some v3 := hr 3 _ rfl
    have t4 : W.cell? ⟨bt, kk * 5 + 4, none⟩ = some v4 := hr 4 _ rfl
    unfold nodA at C1
    have hbox : W.heap[Wo.heap.size]? = some (.cells #[.int .i64 x.datum.k, .string x.datum.op, .string x.datum.st, .float .f64 x.datum.nm, .bool x.datum.fl, .slice A' x.kids.length c', .int .i64 x.datum.ps] 25 (0, 0)) :=
      (hkp.same _ (by simp) (.inr (by omega))).trans (World.alloc_heap_new _ _)
    rw [hkk] at C1 hbox
    have C1 := Lib.hid C1
    have m0 : W.cell? ⟨Wo.heap.size, 0, none⟩ = some (.int .i64 kk) := cell_of_row _ _ 0 _ _ _ hbox
    have m1 : W.cell? ⟨Wo.heap.size, 1, none⟩ = some (.string x.datum.op) := cell_of_row _ _ 1 _ _ _ hbox
    have m2 : W.cell? ⟨Wo.heap.size, 2, none⟩ = some (.string x.datum.st) := cell_of_row _ _ 2 _ _ _ hbox
    have m3 : W.cell? ⟨Wo.heap.size, 3, none⟩ = some (.float .f64 x.datum.nm) := cell_of_row _ _ 3 _ _ _ hbox
    have m4 : W.cell? ⟨Wo.heap.size, 4, none⟩ = some (.bool x.datum.fl) := cell_of_row _ _ 4 _ _ _ hbox
    have m5 : W.cell? ⟨Wo.heap.size, 5, none⟩ = some (.slice A' x.kids.length c') := cell_of_row _ _ 5 _ _ _ hbox
    have m6 : W.cell? ⟨Wo.heap.size, 6, none⟩ = some (.int .i64 x.datum.ps) := cell_of_row _ _ 6 _ _ _ hbox
    have a0 : W.cell? ⟨w4.heap.size, 0, none⟩ = some (.slice (some ⟨bt, 0, none⟩) 63 63) := cell_of_row _ _ 0 _ _ _ ((hI2.block _ (by omega)).trans EA.out)
    have R1 := Lib.hid ((hI2.block _ (by omega)).trans E1.out)
    have HBB := Lib.hid hB
    have HKT := Lib.hid hkt
    have HX1 := Lib.hid hx1
    have HZ6 := Lib.hid hz6
    have HS4 := Lib.hid hS4
    have HK := Lib.hid hk
    clear hit hI0 hx2 hI1 hI2 hkp hkr hkk hkt hr hB hx1 hml hne hbox hz6 hS4 hk hso hq
    cases B
    · gi_wp2
      gi_region_with (refine ⟨trivial, rfl, (CallsIn.inRound _ (callsIn_wide.2 (C1.out _ (Below.refl _ _).drew))).mono ?_⟩; rintro e w9 ⟨rfl, b9⟩)
      all_goals
        have B9 := Lib.hid (show Below W.heap.size W w9 from ((Below.refl _ _).drew).trans b9)
        have e1 := (B9.out.block _ (cell_lt' R1.out)).trans R1.out
        obtain ⟨c8, c9⟩ := cell1 e1
        have HE := Lib.hid e1
        clear e1 b9
        gi_wp2
        have zz := HZ6.out
        have z4 := HS4.out
        have z2 := HI2.out.size
        refine ⟨(Kp.of_below B9.out).trans (Kp.setCell _ (by show _ ≤ w.heap.size + 1; omega) (by show w.heap.size + 1 < _; omega)), rfl, ?_, heap_set1 _ HE.out, (((HW.out.trans (HI2.out.mono HW.out.size)).trans (B9.out.mono (by have := HW.out.size; omega))).setCell (p := ⟨w.heap.size + 1, 0, none⟩) (Nat.le_succ _) _)⟩
        exact broken HRR.out HX1.out HKT.out HBB.out
    · gi_wp2
      gi_region_with (refine ⟨trivial, rfl, (CallsIn.inRound _ (callsIn_wide.2 (C1.out _ (Below.refl _ _).drew))).mono ?_⟩; rintro e w9 ⟨rfl, b9⟩)
      all_goals
        have B9 := Lib.hid (show Below W.heap.size W w9 from ((Below.refl _ _).drew).trans b9)
        clear b9
        gi_wp2
        exact ⟨Kp.of_below B9.out, held HI1.out HX1.out HKT.out HBB.out, HI2.out.trans (B9.out.mono HI2.out.size)⟩
  case done =>
    rintro D W hD hI hd
    have e1 := (hI.b.block _ (by omega)).trans E1.out
    obtain ⟨c8, c9⟩ := cell1 e1
    have HE1 := Lib.hid e1
    have HI := Lib.hid hI
    have HD := Lib.hid hd
    have HDD := Lib.hid hD
    have HZ6 := Lib.hid hz6
    have HS4 := Lib.hid hS4
    clear hit hI0 hI hd e1 hD hz6 hS4
    gi_wp2
    have zz := HZ6.out
    have z4 := HS4.out
    have z5 := HDD.out
    have e2 : (W.setCell ⟨w.heap.size + 1, 0, none⟩ (.int .i64 0)).heap[w.heap.size + 1]? = some (.cells #[.int .i64 0] 32 (0, 0)) := heap_set1 _ HE1.out
    have hd2 : (W.setCell ⟨w.heap.size + 1, 0, none⟩ (.int .i64 0)).heap[D]? = some (.deferred (some [])) := (heap_setCell_other _ _ _ _ (by show D ≠ w.heap.size + 1; omega)).trans HD.out
    refine ⟨by simp, .inl ⟨_, _, rfl, run_takeDeferred hd2, ?_⟩⟩
    have p1 : ((W.setCell ⟨w.heap.size + 1, 0, none⟩ (.int .i64 0)).putObj D (.deferred none)).cell? ⟨w.heap.size + 1, 0, none⟩ = some (.int .i64 0) := (World.cell?_of_block (World.putObj_heap_other (by show w.heap.size + 1 ≠ D; omega))).trans (cell1 e2).1
    refine ⟨_, results_cell_one rfl _ _ _ _ _ rfl (load_err p1), ?_, ((HW.out.trans (HI.out.b.mono HW.out.size)).setCell (p := ⟨w.heap.size + 1, 0, none⟩) (Nat.le_succ _) _).trans (below_put _ _ (by omega))⟩
    have hall : Tr.every (fun x => hld (shp nmd rsv (kd x).toNat) x) t = true := by
      rw [Tr.every_all, List.all_eq_true]
      intro x hx
      obtain ⟨i, hi⟩ := List.mem_iff_getElem?.1 hx
      exact HI.out.ok i x (List.getElem?_eq_some_iff.1 hi).1 hi
    rw [← HRR.out, if_pos hall]
  case stop =>
    rintro D c k W hD hk ⟨rfl, hX⟩ hd
    have HX := Lib.hid hX
    have HD := Lib.hid hd
    have HDD := Lib.hid hD
    have HZ6 := Lib.hid hz6
    have HS4 := Lib.hid hS4
    clear hit hI0 hX hd hD hz6 hS4
    gi_wp2
    have zz := HZ6.out
    have z4 := HS4.out
    have z5 := HDD.out
    refine ⟨by simp, .inl ⟨_, _, rfl, run_takeDeferred HD.out, ?_⟩⟩
    have p1 : (W.putObj D (.deferred none)).cell? ⟨w.heap.size + 1, 0, none⟩ = some (.int .i64 70) := (World.cell?_of_block (World.putObj_heap_other (by show w.heap.size + 1 ≠ D; omega))).trans (cell1 HX.out.c).1
    exact ⟨_, results_cell_one rfl _ _ _ _ _ rfl (load_err p1), by rw [HX.out.r], HX.out.b.trans (below_put _ _ (by omega))⟩
end Go.Proofs.YtfpmhahjemdodaaGreatDoor
namespace Go.Proofs.YtfpmhahjemdodaaGreatDoor
open Go.RowKit Go.Shelf
theorem aCheck_any {nmd rsv : ByteArray → Bool} (hL : Lx nmd rsv) (t : Tn) (cs : List Value) (w : World) (ht : At (fun b => b < w.heap.size) w t cs) (hF : Fit t) (h24 : t.size ≤ 4398046511103) :
    Calls Tryz.prog 16 #[.agg cs.toArray] w fun e w' => e = .returned (.int .i64 (if treeOk nmd rsv t then 0 else 70)) ∧ Below w.heap.size w w' := by
  unfold treeOk
  by_cases h1 : kd t = 40
  · by_cases h2 : t.size ≤ 1048576
    · by_cases h3 : t.depth ≤ 65536
      · rw [h1, decide_eq_true h2, decide_eq_true h3]
        exact Check_all hL t cs w ht hF h24 h1 (Lib.hid h2) (Lib.hid h3)
      · rw [decide_eq_false h3, Bool.false_and, Bool.and_false, Bool.and_false]
        exact Check_no3 hL t cs w ht hF h24 h1 (Lib.hid h2) (Lib.hid (Nat.lt_of_not_le h3))
    · rw [decide_eq_false h2, Bool.false_and, Bool.and_false]
      exact Check_no2 hL t cs w ht hF h24 h1 (Lib.hid (Nat.lt_of_not_le h2))
  · rw [beq_false_of_ne h1, Bool.false_and]
    exact Check_no1 hL t cs w ht hF h24 h1
end Go.Proofs.YtfpmhahjemdodaaGreatDoor
