/-
  Merged texts (Nj, ZzA, BB, ZzC, BC).
-/
import Derived.Test.YtmimeejjaneedaaGreatDoorQla
open Go.RowKit
set_option maxRecDepth 100000
set_option maxHeartbeats 40000000
namespace Go.Proofs.YtmimeejjaneedaaGreatDoor
section
def Tr (B k : Nat) (l : List Nat) (o : Option (List Nat × Nat)) (w : World) (e : Ending) (w' : World) : Prop :=
 (match o with
  | none => ∃ v' a, e = .returned (.tuple #[v', .int .i64 a, .bool false])
  | some p => ∃ v', e = .returned (.tuple #[v', .int .i64 ((k + p.2 : Nat) : Int), .bool true]) ∧ Own16 B (l ++ p.1) v' w') ∧ Below B w w'
theorem Dk (s : ByteArray) (k : Nat) (w : World) (hs : s.size ≤ maxLen) :
  Cp 66 #[.string s, .int .i64 k] w fun e w' => e = .returned (.tuple #[.int .u16 ((hd0 ((us s).drop k) : Nat) : Int), .bool (!((us s).drop k).isEmpty)]) ∧ ∃ n, w' = w.drewN n := by
 have h := T5 s k w hs
 rw [Rf, Yw] at h
 exact h
theorem Ach (B : Nat) (l : List Nat) (v : Value) (s : ByteArray) (k c : Nat) (w : World) (hs : s.size ≤ 140737488355328) (hk : k ≤ ln s) (hc : hd0 ((us s).drop k) = c) (hlt : k < ln s) (h : c = 120) (H : Own16 B l v w) (hB : B ≤ w.heap.size) (hl : l.length ≤ 35184372088832) :
  Cp 106 #[v, .string s, .int .i64 k] w fun e w' => Tr B k l ((Bu 0 2 ((us s).drop (k + 1))).map fun v => ([v], 3)) w e w' := by
 have hs63 : s.size ≤ maxLen := by unfold maxLen; omega
 obtain ⟨i0, hi, hz0, hz1, hz2⟩ := info_parts Cx
 have C1 := Lh (fun W => Dk s k W hs63)
 have hkl : (k : Int) ≤ 140737488355327 := by have := Ap s; have _ := hk; have _ := hB; have _ := hl; omega
 have CU : ∀ W, Cp 36 #[.string s, .int .i64 ((k : Int) + 1)] W fun e w' => e = .returned (.int .u16 ((hd0 ((us s).drop (k + 1)) : Nat) : Int)) ∧ ∃ m, w' = W.drewN m := fun W => by
  rw [show (k : Int) + 1 = ((k + 1 : Nat) : Int) by omega]; exact An s (k + 1) W hs63
 have CU := Lh CU
 have CH : ∀ n : Nat, n ≤ 4 → ∀ W, Cp 193 #[.string s, .int .i64 ((k : Int) + 1), .int .i64 n] W fun e w' => e = Fe (Bu 0 n ((us s).drop (k + 1))) ∧ ∃ m, w' = W.drewN m := fun n hn W => by
  have := Ap s
  rw [show (k : Int) + 1 = ((k + 1 : Nat) : Int) by omega]; exact E5 s (k + 1) n W hs (by omega) hn
 have CH := Lh CH
 have CE := Lh (fun W => Fl c W)
 have CD := Lh (fun W => Au c W)
 have CS := Lh (fun W => Dc c W)
 rw [hc] at C1
 have hne : ((us s).drop k).isEmpty = false := by
  rw [List.isEmpty_eq_false_iff, Ne, List.drop_eq_nil_iff, Ab]
  omega
 rw [hne] at C1
 have C2 := Lh (show ∀ W, Cp 193 #[.string s, .int .i64 ((k : Int) + 1), .int .i64 2] W fun e w' => e = Fe (Bu 0 2 ((us s).drop (k + 1))) ∧ ∃ m, w' = W.drewN m from fun W => CH.out 2 (by omega) W)
 obtain ⟨o, ho⟩ : ∃ o, Bu 0 2 ((us s).drop (k + 1)) = o := ⟨_, rfl⟩
 rw [ho] at C2 ⊢
 subst h
 clear hs hs63 hk hc hne ho CU CH CE CD CS
 cases o with
 | none =>
  go_enter Tryz.func106, Tryz.ntmps106
  go_wp2_with fail
  refine Dm (C1.out _) fun n1 => ?_
  go_wp2_with fail
  refine Dm (C2.out _) fun n2 => ?_
  simp only [Fe]
  go_wp2_with (at_builtin; refine wpList_append_own _ rfl _ _ 57 rfl B 52 i0 (.int .u16 0) 1 2 Tryz.underlying57 hi hz0 hz1 hz2 rfl (by decide) _ _ _ rfl (World.ownsRow.alloc (w := w.drewN (n1 + n2)) H _) ⟨(w.drewN (n1 + n2)).heap.size, 0, none⟩ 1 1 [.int .u16 0] rfl rfl ?c1 ?c2 ?c3 ?c4 ?c5 ?_)
  case c1 => exact (cell_one_new _ _ _)
  case c2 => simp [Value.oneCell']
  case c3 => unfold maxLen; omega
  case c4 => omega
  case c5 => simp; omega
  intro v' w1 hown hg _
  have hbw : Below B w w1 := ((Ac (Below.refl B w) (n1 + n2)).alloc (by simpa using hB) _).grown hg (by simp; omega) (fun j hj => (World.ownsRow.lt H j hj).1)
  go_wp2
  go_ret3
  exact ⟨⟨_, _, rfl⟩, hbw⟩
 | some x =>
  go_enter Tryz.func106, Tryz.ntmps106
  go_wp2_with fail
  refine Dm (C1.out _) fun n1 => ?_
  go_wp2_with fail
  refine Dm (C2.out _) fun n2 => ?_
  simp only [Fe]
  go_wp2_with (at_builtin; refine wpList_append_own _ rfl _ _ 57 rfl B 52 i0 (.int .u16 0) 1 2 Tryz.underlying57 hi hz0 hz1 hz2 rfl (by decide) _ _ _ rfl (World.ownsRow.alloc (w := w.drewN (n1 + n2)) H _) ⟨(w.drewN (n1 + n2)).heap.size, 0, none⟩ 1 1 [.int .u16 (x : Nat)] rfl rfl ?c1 ?c2 ?c3 ?c4 ?c5 ?_)
  case c1 => exact (cell_one_new _ _ _)
  case c2 => simp [Value.oneCell']
  case c3 => unfold maxLen; omega
  case c4 => omega
  case c5 => simp; omega
  intro v' w1 hown hg _
  have hbw : Below B w w1 := ((Ac (Below.refl B w) (n1 + n2)).alloc (by simpa using hB) _).grown hg (by simp; omega) (fun j hj => (World.ownsRow.lt H j hj).1)
  go_wp2
  go_ret3
  exact ⟨⟨_, rfl, by simpa [Own16] using hown⟩, hbw⟩
theorem Acv (B : Nat) (l : List Nat) (v : Value) (s : ByteArray) (k c : Nat) (w : World) (hs : s.size ≤ 140737488355328) (hk : k ≤ ln s) (hc : hd0 ((us s).drop k) = c) (hlt : k < ln s) (h : c = 117) (H : Own16 B l v w) (hB : B ≤ w.heap.size) (hl : l.length ≤ 35184372088832) :
  Cp 106 #[v, .string s, .int .i64 k] w fun e w' => Tr B k l ((Bu 0 4 ((us s).drop (k + 1))).map fun v => ([v], 5)) w e w' := by
 have hs63 : s.size ≤ maxLen := by unfold maxLen; omega
 obtain ⟨i0, hi, hz0, hz1, hz2⟩ := info_parts Cx
 have C1 := Lh (fun W => Dk s k W hs63)
 have hkl : (k : Int) ≤ 140737488355327 := by have := Ap s; have _ := hk; have _ := hB; have _ := hl; omega
 have CU : ∀ W, Cp 36 #[.string s, .int .i64 ((k : Int) + 1)] W fun e w' => e = .returned (.int .u16 ((hd0 ((us s).drop (k + 1)) : Nat) : Int)) ∧ ∃ m, w' = W.drewN m := fun W => by
  rw [show (k : Int) + 1 = ((k + 1 : Nat) : Int) by omega]; exact An s (k + 1) W hs63
 have CU := Lh CU
 have CH : ∀ n : Nat, n ≤ 4 → ∀ W, Cp 193 #[.string s, .int .i64 ((k : Int) + 1), .int .i64 n] W fun e w' => e = Fe (Bu 0 n ((us s).drop (k + 1))) ∧ ∃ m, w' = W.drewN m := fun n hn W => by
  have := Ap s
  rw [show (k : Int) + 1 = ((k + 1 : Nat) : Int) by omega]; exact E5 s (k + 1) n W hs (by omega) hn
 have CH := Lh CH
 have CE := Lh (fun W => Fl c W)
 have CD := Lh (fun W => Au c W)
 have CS := Lh (fun W => Dc c W)
 rw [hc] at C1
 have hne : ((us s).drop k).isEmpty = false := by
  rw [List.isEmpty_eq_false_iff, Ne, List.drop_eq_nil_iff, Ab]
  omega
 rw [hne] at C1
 have C2 := Lh (show ∀ W, Cp 193 #[.string s, .int .i64 ((k : Int) + 1), .int .i64 4] W fun e w' => e = Fe (Bu 0 4 ((us s).drop (k + 1))) ∧ ∃ m, w' = W.drewN m from fun W => CH.out 4 (by omega) W)
 obtain ⟨o, ho⟩ : ∃ o, Bu 0 4 ((us s).drop (k + 1)) = o := ⟨_, rfl⟩
 rw [ho] at C2 ⊢
 subst h
 clear hs hs63 hk hc hne ho CU CH CE CD CS
 cases o with
 | none =>
  go_enter Tryz.func106, Tryz.ntmps106
  go_wp2_with fail
  refine Dm (C1.out _) fun n1 => ?_
  go_wp2_with fail
  refine Dm (C2.out _) fun n2 => ?_
  simp only [Fe]
  go_wp2_with (at_builtin; refine wpList_append_own _ rfl _ _ 57 rfl B 52 i0 (.int .u16 0) 1 2 Tryz.underlying57 hi hz0 hz1 hz2 rfl (by decide) _ _ _ rfl (World.ownsRow.alloc (w := w.drewN (n1 + n2)) H _) ⟨(w.drewN (n1 + n2)).heap.size, 0, none⟩ 1 1 [.int .u16 0] rfl rfl ?c1 ?c2 ?c3 ?c4 ?c5 ?_)
  case c1 => exact (cell_one_new _ _ _)
  case c2 => simp [Value.oneCell']
  case c3 => unfold maxLen; omega
  case c4 => omega
  case c5 => simp; omega
  intro v' w1 hown hg _
  have hbw : Below B w w1 := ((Ac (Below.refl B w) (n1 + n2)).alloc (by simpa using hB) _).grown hg (by simp; omega) (fun j hj => (World.ownsRow.lt H j hj).1)
  go_wp2
  go_ret3
  exact ⟨⟨_, _, rfl⟩, hbw⟩
 | some x =>
  go_enter Tryz.func106, Tryz.ntmps106
  go_wp2_with fail
  refine Dm (C1.out _) fun n1 => ?_
  go_wp2_with fail
  refine Dm (C2.out _) fun n2 => ?_
  simp only [Fe]
  go_wp2_with (at_builtin; refine wpList_append_own _ rfl _ _ 57 rfl B 52 i0 (.int .u16 0) 1 2 Tryz.underlying57 hi hz0 hz1 hz2 rfl (by decide) _ _ _ rfl (World.ownsRow.alloc (w := w.drewN (n1 + n2)) H _) ⟨(w.drewN (n1 + n2)).heap.size, 0, none⟩ 1 1 [.int .u16 (x : Nat)] rfl rfl ?c1 ?c2 ?c3 ?c4 ?c5 ?_)
  case c1 => exact (cell_one_new _ _ _)
  case c2 => simp [Value.oneCell']
  case c3 => unfold maxLen; omega
  case c4 => omega
  case c5 => simp; omega
  intro v' w1 hown hg _
  have hbw : Below B w w1 := ((Ac (Below.refl B w) (n1 + n2)).alloc (by simpa using hB) _).grown hg (by simp; omega) (fun j hj => (World.ownsRow.lt H j hj).1)
  go_wp2
  go_ret3
  exact ⟨⟨_, rfl, by simpa [Own16] using hown⟩, hbw⟩
theorem Qq (B : Nat) (l : List Nat) (v : Value) (s : ByteArray) (k c : Nat) (w : World) (hs : s.size ≤ 140737488355328) (hk : k ≤ ln s) (hc : hd0 ((us s).drop k) = c) (hlt : k < ln s) (he : enN c = true) (H : Own16 B l v w) (hB : B ≤ w.heap.size) (hl : l.length ≤ 35184372088832) :
  Cp 106 #[v, .string s, .int .i64 k] w fun e w' => Tr B k l (some ([], if c = 13 ∧ hd0 ((us s).drop (k + 1)) = 10 then 2 else 1)) w e w' := by
 have hs63 : s.size ≤ maxLen := by unfold maxLen; omega
 obtain ⟨i0, hi, hz0, hz1, hz2⟩ := info_parts Cx
 have C1 := Lh (fun W => Dk s k W hs63)
 have hkl : (k : Int) ≤ 140737488355327 := by have := Ap s; have _ := hk; have _ := hB; have _ := hl; omega
 have CU : ∀ W, Cp 36 #[.string s, .int .i64 ((k : Int) + 1)] W fun e w' => e = .returned (.int .u16 ((hd0 ((us s).drop (k + 1)) : Nat) : Int)) ∧ ∃ m, w' = W.drewN m := fun W => by
  rw [show (k : Int) + 1 = ((k + 1 : Nat) : Int) by omega]; exact An s (k + 1) W hs63
 have CU := Lh CU
 have CH : ∀ n : Nat, n ≤ 4 → ∀ W, Cp 193 #[.string s, .int .i64 ((k : Int) + 1), .int .i64 n] W fun e w' => e = Fe (Bu 0 n ((us s).drop (k + 1))) ∧ ∃ m, w' = W.drewN m := fun n hn W => by
  have := Ap s
  rw [show (k : Int) + 1 = ((k + 1 : Nat) : Int) by omega]; exact E5 s (k + 1) n W hs (by omega) hn
 have CH := Lh CH
 have CE := Lh (fun W => Fl c W)
 have CD := Lh (fun W => Au c W)
 have CS := Lh (fun W => Dc c W)
 rw [hc] at C1
 have hne : ((us s).drop k).isEmpty = false := by
  rw [List.isEmpty_eq_false_iff, Ne, List.drop_eq_nil_iff, Ab]
  omega
 rw [hne] at C1
 have h4 : c = 10 ∨ c = 13 ∨ c = 8232 ∨ c = 8233 := by
  unfold enN enB at he
  simp at he
  omega
 rw [he] at CE
 obtain ⟨d, hd⟩ : ∃ d, hd0 ((us s).drop (k + 1)) = d := ⟨_, rfl⟩
 rw [hd] at CU ⊢
 clear hs hs63 hk hc hne hd he CH CD CS
 by_cases h13 : c = 13
 ·subst h13
  clear h4
  by_cases h10 : d = 10
  ·subst h10
   rw [if_pos ⟨rfl, rfl⟩]
   go_enter Tryz.func106, Tryz.ntmps106
   go_wp2_with fail
   refine Dm (C1.out _) fun n1 => ?_
   go_wp2_with fail
   refine Sm (CE.out _) ?_
   go_wp2_with fail
   refine Dm (CU.out _) fun n2 => ?_
   go_wp2
   go_ret3
   exact ⟨⟨_, rfl, by simpa [Own16] using (show Own16 B l v (w.drewN (n1 + n2)) from H)⟩, Ac (Below.refl B w) (n1 + n2)⟩
  ·rw [if_neg (by omega)]
   have g1 : (d : Int) ≠ 10 := by omega
   go_enter Tryz.func106, Tryz.ntmps106
   go_wp2_with fail
   refine Dm (C1.out _) fun n1 => ?_
   go_wp2_with fail
   refine Sm (CE.out _) ?_
   go_wp2_with fail
   refine Dm (CU.out _) fun n2 => ?_
   go_wp2
   go_ret3
   exact ⟨⟨_, rfl, by simpa [Own16] using (show Own16 B l v (w.drewN (n1 + n2)) from H)⟩, Ac (Below.refl B w) (n1 + n2)⟩
 ·rw [if_neg (by omega)]
  have h3 : c = 10 ∨ c = 8232 ∨ c = 8233 := by omega
  clear h4 h13
  rcases h3 with rfl | rfl | rfl
  all_goals
   go_enter Tryz.func106, Tryz.ntmps106
   go_wp2_with fail
   refine Dm (C1.out _) fun n1 => ?_
   go_wp2_with fail
   refine Sm (CE.out _) ?_
   go_wp2
   go_ret3
   exact ⟨⟨_, rfl, by simpa [Own16] using (show Own16 B l v (w.drewN n1) from H)⟩, Ac (Below.refl B w) n1⟩
theorem Ss (B : Nat) (l : List Nat) (v : Value) (s : ByteArray) (k c : Nat) (w : World) (hs : s.size ≤ 140737488355328) (hk : k ≤ ln s) (hc : hd0 ((us s).drop k) = c) (hlt : k < ln s) (h : c = 48) (H : Own16 B l v w) (hB : B ≤ w.heap.size) (hl : l.length ≤ 35184372088832) :
  Cp 106 #[v, .string s, .int .i64 k] w fun e w' => Tr B k l (if Ah (hd0 ((us s).drop (k + 1))) = true then none else some ([0], 1)) w e w' := by
 have hs63 : s.size ≤ maxLen := by unfold maxLen; omega
 obtain ⟨i0, hi, hz0, hz1, hz2⟩ := info_parts Cx
 have C1 := Lh (fun W => Dk s k W hs63)
 have hkl : (k : Int) ≤ 140737488355327 := by have := Ap s; have _ := hk; have _ := hB; have _ := hl; omega
 have CU : ∀ W, Cp 36 #[.string s, .int .i64 ((k : Int) + 1)] W fun e w' => e = .returned (.int .u16 ((hd0 ((us s).drop (k + 1)) : Nat) : Int)) ∧ ∃ m, w' = W.drewN m := fun W => by
  rw [show (k : Int) + 1 = ((k + 1 : Nat) : Int) by omega]; exact An s (k + 1) W hs63
 have CU := Lh CU
 have CH : ∀ n : Nat, n ≤ 4 → ∀ W, Cp 193 #[.string s, .int .i64 ((k : Int) + 1), .int .i64 n] W fun e w' => e = Fe (Bu 0 n ((us s).drop (k + 1))) ∧ ∃ m, w' = W.drewN m := fun n hn W => by
  have := Ap s
  rw [show (k : Int) + 1 = ((k + 1 : Nat) : Int) by omega]; exact E5 s (k + 1) n W hs (by omega) hn
 have CH := Lh CH
 have CE := Lh (fun W => Fl c W)
 have CD := Lh (fun W => Au c W)
 have CS := Lh (fun W => Dc c W)
 rw [hc] at C1
 have hne : ((us s).drop k).isEmpty = false := by
  rw [List.isEmpty_eq_false_iff, Ne, List.drop_eq_nil_iff, Ab]
  omega
 rw [hne] at C1
 obtain ⟨d, hd⟩ : ∃ d, hd0 ((us s).drop (k + 1)) = d := ⟨_, rfl⟩
 rw [hd] at CU ⊢
 have CD2 := Lh (fun W => Au d W)
 subst h
 rw [show enN 48 = false from rfl] at CE
 clear hs hs63 hk hc hne hd CH CD CS
 cases hg : Ah d
 ·rw [hg] at CD2
  rw [if_neg (by simp)]
  clear hg
  go_enter Tryz.func106, Tryz.ntmps106
  go_wp2_with fail
  refine Dm (C1.out _) fun n1 => ?_
  go_wp2_with fail
  refine Sm (CE.out _) ?_
  go_wp2_with fail
  refine Dm (CU.out _) fun n2 => ?_
  go_wp2_with fail
  refine Sm (CD2.out _) ?_
  go_wp2_with (at_builtin; refine wpList_append_own _ rfl _ _ 57 rfl B 52 i0 (.int .u16 0) 1 2 Tryz.underlying57 hi hz0 hz1 hz2 rfl (by decide) _ _ _ rfl (World.ownsRow.alloc (w := w.drewN (n1 + n2)) H _) ⟨(w.drewN (n1 + n2)).heap.size, 0, none⟩ 1 1 [.int .u16 0] rfl rfl ?c1 ?c2 ?c3 ?c4 ?c5 ?_)
  case c1 => exact (cell_one_new _ _ _)
  case c2 => simp [Value.oneCell']
  case c3 => unfold maxLen; omega
  case c4 => omega
  case c5 => simp; omega
  intro v' w1 hown hg _
  have hbw : Below B w w1 := ((Ac (Below.refl B w) (n1 + n2)).alloc (by simpa using hB) _).grown hg (by simp; omega) (fun j hj => (World.ownsRow.lt H j hj).1)
  go_wp2
  go_ret3
  exact ⟨⟨_, rfl, by simpa [Own16] using hown⟩, hbw⟩
 ·rw [hg] at CD2
  rw [if_pos rfl]
  clear hg
  go_enter Tryz.func106, Tryz.ntmps106
  go_wp2_with fail
  refine Dm (C1.out _) fun n1 => ?_
  go_wp2_with fail
  refine Sm (CE.out _) ?_
  go_wp2_with fail
  refine Dm (CU.out _) fun n2 => ?_
  go_wp2_with fail
  refine Sm (CD2.out _) ?_
  go_wp2_with (at_builtin; refine wpList_append_own _ rfl _ _ 57 rfl B 52 i0 (.int .u16 0) 1 2 Tryz.underlying57 hi hz0 hz1 hz2 rfl (by decide) _ _ _ rfl (World.ownsRow.alloc (w := w.drewN (n1 + n2)) H _) ⟨(w.drewN (n1 + n2)).heap.size, 0, none⟩ 1 1 [.int .u16 0] rfl rfl ?c1 ?c2 ?c3 ?c4 ?c5 ?_)
  case c1 => exact (cell_one_new _ _ _)
  case c2 => simp [Value.oneCell']
  case c3 => unfold maxLen; omega
  case c4 => omega
  case c5 => simp; omega
  intro v' w1 hown hg _
  have hbw : Below B w w1 := ((Ac (Below.refl B w) (n1 + n2)).alloc (by simpa using hB) _).grown hg (by simp; omega) (fun j hj => (World.ownsRow.lt H j hj).1)
  go_wp2
  go_ret3
  exact ⟨⟨_, _, rfl⟩, hbw⟩
theorem Ua (B : Nat) (l : List Nat) (v : Value) (s : ByteArray) (k c : Nat) (w : World) (hs : s.size ≤ 140737488355328) (hk : k ≤ ln s) (hc : hd0 ((us s).drop k) = c) (hlt : k < ln s) (h : Ah c = true) (h48 : c ≠ 48) (H : Own16 B l v w) (hB : B ≤ w.heap.size) (hl : l.length ≤ 35184372088832) :
  Cp 106 #[v, .string s, .int .i64 k] w fun e w' => Tr B k l none w e w' := by
 have hs63 : s.size ≤ maxLen := by unfold maxLen; omega
 obtain ⟨i0, hi, hz0, hz1, hz2⟩ := info_parts Cx
 have C1 := Lh (fun W => Dk s k W hs63)
 have hkl : (k : Int) ≤ 140737488355327 := by have := Ap s; have _ := hk; have _ := hB; have _ := hl; omega
 have CU : ∀ W, Cp 36 #[.string s, .int .i64 ((k : Int) + 1)] W fun e w' => e = .returned (.int .u16 ((hd0 ((us s).drop (k + 1)) : Nat) : Int)) ∧ ∃ m, w' = W.drewN m := fun W => by
  rw [show (k : Int) + 1 = ((k + 1 : Nat) : Int) by omega]; exact An s (k + 1) W hs63
 have CU := Lh CU
 have CH : ∀ n : Nat, n ≤ 4 → ∀ W, Cp 193 #[.string s, .int .i64 ((k : Int) + 1), .int .i64 n] W fun e w' => e = Fe (Bu 0 n ((us s).drop (k + 1))) ∧ ∃ m, w' = W.drewN m := fun n hn W => by
  have := Ap s
  rw [show (k : Int) + 1 = ((k + 1 : Nat) : Int) by omega]; exact E5 s (k + 1) n W hs (by omega) hn
 have CH := Lh CH
 have CE := Lh (fun W => Fl c W)
 have CD := Lh (fun W => Au c W)
 have CS := Lh (fun W => Dc c W)
 rw [hc] at C1
 have hne : ((us s).drop k).isEmpty = false := by
  rw [List.isEmpty_eq_false_iff, Ne, List.drop_eq_nil_iff, Ab]
  omega
 rw [hne] at C1
 have h2 := Ca.1 h
 have g1 : (c : Int) ≠ 120 := by omega
 have g2 : (c : Int) ≠ 117 := by omega
 have g3 : (c : Int) ≠ 48 := by omega
 have hen : enN c = false := by
  unfold enN enB
  simp
  omega
 rw [hen] at CE
 rw [h] at CD
 clear hs hs63 hk hc hne hen h h2 h48 CH CS CU
 go_enter Tryz.func106, Tryz.ntmps106
 go_wp2_with fail
 refine Dm (C1.out _) fun n1 => ?_
 go_wp2_with fail
 refine Sm (CE.out _) ?_
 go_wp2_with fail
 refine Sm (CD.out _) ?_
 go_wp2_with (at_builtin; refine wpList_append_own _ rfl _ _ 57 rfl B 52 i0 (.int .u16 0) 1 2 Tryz.underlying57 hi hz0 hz1 hz2 rfl (by decide) _ _ _ rfl (World.ownsRow.alloc (w := w.drewN (n1)) H _) ⟨(w.drewN (n1)).heap.size, 0, none⟩ 1 1 [.int .u16 (c : Nat)] rfl rfl ?c1 ?c2 ?c3 ?c4 ?c5 ?_)
 case c1 => exact (cell_one_new _ _ _)
 case c2 => simp [Value.oneCell']
 case c3 => unfold maxLen; omega
 case c4 => omega
 case c5 => simp; omega
 intro v' w1 hown hg _
 have hbw : Below B w w1 := ((Ac (Below.refl B w) (n1)).alloc (by simpa using hB) _).grown hg (by simp; omega) (fun j hj => (World.ownsRow.lt H j hj).1)
 go_wp2
 go_ret3
 exact ⟨⟨_, _, rfl⟩, hbw⟩
theorem Ur (B : Nat) (l : List Nat) (v : Value) (s : ByteArray) (k c : Nat) (w : World) (hs : s.size ≤ 140737488355328) (hk : k ≤ ln s) (hc : hd0 ((us s).drop k) = c) (hlt : k < ln s) (h1 : c ≠ 120) (h2 : c ≠ 117) (hen : enN c = false) (h48 : c ≠ 48) (h : Ah c = false) (H : Own16 B l v w) (hB : B ≤ w.heap.size) (hl : l.length ≤ 35184372088832) :
  Cp 106 #[v, .string s, .int .i64 k] w fun e w' => Tr B k l (some ([Od c], 1)) w e w' := by
 have hs63 : s.size ≤ maxLen := by unfold maxLen; omega
 obtain ⟨i0, hi, hz0, hz1, hz2⟩ := info_parts Cx
 have C1 := Lh (fun W => Dk s k W hs63)
 have hkl : (k : Int) ≤ 140737488355327 := by have := Ap s; have _ := hk; have _ := hB; have _ := hl; omega
 have CU : ∀ W, Cp 36 #[.string s, .int .i64 ((k : Int) + 1)] W fun e w' => e = .returned (.int .u16 ((hd0 ((us s).drop (k + 1)) : Nat) : Int)) ∧ ∃ m, w' = W.drewN m := fun W => by
  rw [show (k : Int) + 1 = ((k + 1 : Nat) : Int) by omega]; exact An s (k + 1) W hs63
 have CU := Lh CU
 have CH : ∀ n : Nat, n ≤ 4 → ∀ W, Cp 193 #[.string s, .int .i64 ((k : Int) + 1), .int .i64 n] W fun e w' => e = Fe (Bu 0 n ((us s).drop (k + 1))) ∧ ∃ m, w' = W.drewN m := fun n hn W => by
  have := Ap s
  rw [show (k : Int) + 1 = ((k + 1 : Nat) : Int) by omega]; exact E5 s (k + 1) n W hs (by omega) hn
 have CH := Lh CH
 have CE := Lh (fun W => Fl c W)
 have CD := Lh (fun W => Au c W)
 have CS := Lh (fun W => Dc c W)
 rw [hc] at C1
 have hne : ((us s).drop k).isEmpty = false := by
  rw [List.isEmpty_eq_false_iff, Ne, List.drop_eq_nil_iff, Ab]
  omega
 rw [hne] at C1
 have g1 : (c : Int) ≠ 120 := by omega
 have g2 : (c : Int) ≠ 117 := by omega
 have g3 : (c : Int) ≠ 48 := by omega
 rw [hen] at CE
 rw [h] at CD
 obtain ⟨x, hx⟩ : ∃ x, Od c = x := ⟨_, rfl⟩
 rw [hx] at CS ⊢
 clear hs hs63 hk hc hne hen h h1 h2 h48 hx CH CU
 go_enter Tryz.func106, Tryz.ntmps106
 go_wp2_with fail
 refine Dm (C1.out _) fun n1 => ?_
 go_wp2_with fail
 refine Sm (CE.out _) ?_
 go_wp2_with fail
 refine Sm (CD.out _) ?_
 go_wp2_with fail
 refine Sm (CS.out _) ?_
 go_wp2_with (at_builtin; refine wpList_append_own _ rfl _ _ 57 rfl B 52 i0 (.int .u16 0) 1 2 Tryz.underlying57 hi hz0 hz1 hz2 rfl (by decide) _ _ _ rfl (World.ownsRow.alloc (w := w.drewN (n1)) H _) ⟨(w.drewN (n1)).heap.size, 0, none⟩ 1 1 [.int .u16 (x : Nat)] rfl rfl ?c1 ?c2 ?c3 ?c4 ?c5 ?_)
 case c1 => exact (cell_one_new _ _ _)
 case c2 => simp [Value.oneCell']
 case c3 => unfold maxLen; omega
 case c4 => omega
 case c5 => simp; omega
 intro v' w1 hown hg _
 have hbw : Below B w w1 := ((Ac (Below.refl B w) (n1)).alloc (by simpa using hB) _).grown hg (by simp; omega) (fun j hj => (World.ownsRow.lt H j hj).1)
 go_wp2
 go_ret3
 exact ⟨⟨_, rfl, by simpa [Own16] using hown⟩, hbw⟩
theorem S6 (B : Nat) (l : List Nat) (v : Value) (s : ByteArray) (k c : Nat) (w : World) (hs : s.size ≤ 140737488355328) (hk : k ≤ ln s) (hc : hd0 ((us s).drop k) = c) (hend : k = ln s) (H : Own16 B l v w) (hB : B ≤ w.heap.size) (hl : l.length ≤ 35184372088832) :
  Cp 106 #[v, .string s, .int .i64 k] w fun e w' => Tr B k l none w e w' := by
 have hs63 : s.size ≤ maxLen := by unfold maxLen; omega
 obtain ⟨i0, hi, hz0, hz1, hz2⟩ := info_parts Cx
 have C1 := Lh (fun W => Dk s k W hs63)
 have hkl : (k : Int) ≤ 140737488355327 := by have := Ap s; have _ := hk; have _ := hB; have _ := hl; omega
 have CU : ∀ W, Cp 36 #[.string s, .int .i64 ((k : Int) + 1)] W fun e w' => e = .returned (.int .u16 ((hd0 ((us s).drop (k + 1)) : Nat) : Int)) ∧ ∃ m, w' = W.drewN m := fun W => by
  rw [show (k : Int) + 1 = ((k + 1 : Nat) : Int) by omega]; exact An s (k + 1) W hs63
 have CU := Lh CU
 have CH : ∀ n : Nat, n ≤ 4 → ∀ W, Cp 193 #[.string s, .int .i64 ((k : Int) + 1), .int .i64 n] W fun e w' => e = Fe (Bu 0 n ((us s).drop (k + 1))) ∧ ∃ m, w' = W.drewN m := fun n hn W => by
  have := Ap s
  rw [show (k : Int) + 1 = ((k + 1 : Nat) : Int) by omega]; exact E5 s (k + 1) n W hs (by omega) hn
 have CH := Lh CH
 have CE := Lh (fun W => Fl c W)
 have CD := Lh (fun W => Au c W)
 have CS := Lh (fun W => Dc c W)
 rw [hc] at C1
 have hd0' : (us s).drop k = [] := List.drop_eq_nil_iff.2 (by rw [Ab]; omega)
 have hc0 : c = 0 := by rw [← hc, hd0']; rfl
 rw [hd0'] at C1
 subst hc0
 rw [show enN 0 = false from rfl] at CE
 rw [show Ah 0 = false from rfl] at CD
 rw [show Od 0 = 0 from rfl] at CS
 clear hs hs63 hk hc hend CH CU
 go_enter Tryz.func106, Tryz.ntmps106
 go_wp2_with fail
 refine Dm (C1.out _) fun n1 => ?_
 go_wp2_with fail
 refine Sm (CE.out _) ?_
 go_wp2_with fail
 refine Sm (CD.out _) ?_
 go_wp2_with fail
 refine Sm (CS.out _) ?_
 go_wp2_with (at_builtin; refine wpList_append_own _ rfl _ _ 57 rfl B 52 i0 (.int .u16 0) 1 2 Tryz.underlying57 hi hz0 hz1 hz2 rfl (by decide) _ _ _ rfl (World.ownsRow.alloc (w := w.drewN (n1)) H _) ⟨(w.drewN (n1)).heap.size, 0, none⟩ 1 1 [.int .u16 0] rfl rfl ?c1 ?c2 ?c3 ?c4 ?c5 ?_)
 case c1 => exact (cell_one_new _ _ _)
 case c2 => simp [Value.oneCell']
 case c3 => unfold maxLen; omega
 case c4 => omega
 case c5 => simp; omega
 intro v' w1 hown hg _
 have hbw : Below B w w1 := ((Ac (Below.refl B w) (n1)).alloc (by simpa using hB) _).grown hg (by simp; omega) (fun j hj => (World.ownsRow.lt H j hj).1)
 go_wp2
 go_ret3
 exact ⟨⟨_, _, rfl⟩, hbw⟩
theorem Ub (B : Nat) (l : List Nat) (v : Value) (s : ByteArray) (k : Nat) (w : World) (hs : s.size ≤ 140737488355328) (hk : k ≤ ln s) (H : Own16 B l v w) (hB : B ≤ w.heap.size) (hl : l.length ≤ 35184372088832) :
  Cp 106 #[v, .string s, .int .i64 k] w fun e w' => Tr B k l (Hn ((us s).drop k)) w e w' := by
 rcases Nat.lt_or_ge k (ln s) with hlt | hge
 ·obtain ⟨c, h1, h2⟩ := Bw (L := us s) (k := k) (by rw [Ab]; exact hlt)
  rw [h1]
  rw [Hn]
  by_cases e1 : c = 120
  ·rw [if_pos e1, show ∀ r, Eo 0 2 r = Bu 0 2 r from Hg 1 0]
   exact Ach B l v s k c w hs hk h2 hlt e1 H hB hl
  ·rw [if_neg e1]
   by_cases e2 : c = 117
   ·rw [if_pos e2, show ∀ r, Eo 0 4 r = Bu 0 4 r from Hg 3 0]
    exact Acv B l v s k c w hs hk h2 hlt e2 H hB hl
   ·rw [if_neg e2]
    cases e3 : enN c
    ·rw [if_neg (by simp)]
     by_cases e4 : c = 48
     ·rw [if_pos e4]
      exact Ss B l v s k c w hs hk h2 hlt e4 H hB hl
     ·rw [if_neg e4]
      cases e5 : Ah c
      ·rw [if_neg (by simp)]
       exact Ur B l v s k c w hs hk h2 hlt e1 e2 e3 e4 e5 H hB hl
      ·rw [if_pos rfl]
       exact Ua B l v s k c w hs hk h2 hlt e5 e4 H hB hl
    ·rw [if_pos rfl]
     exact Qq B l v s k c w hs hk h2 hlt e3 H hB hl
 ·rw [List.drop_eq_nil_iff.2 (by rw [Ab]; omega)]
  exact S6 B l v s k _ w hs hk rfl (by omega) H hB hl


end
section
theorem Bz (s : ByteArray) (k : Nat) (w : World) (hs : s.size ≤ maxLen) :
  Cp 48 #[.string s, .int .i64 k] w fun e w' => e = .returned (.tuple #[.int .u16 ((hd0 ((us s).drop k) : Nat) : Int), .bool (!((us s).drop k).isEmpty)]) ∧ ∃ n, w' = w.drewN n := by
 have h := Pb s k w hs
 rw [Rf, Yw] at h
 exact h
def zU (l : List Nat) : Nat := if l.isEmpty = true then 65535 else hd0 l
theorem Ce (s : ByteArray) (k : Nat) (w : World) (hs : s.size ≤ maxLen) :
  Cp 45 #[.string s, .int .i64 k] w fun e w' => e = .returned (.int .u16 ((zU ((us s).drop k) : Nat) : Int)) ∧ ∃ n, w' = w.drewN n := by
 have C1 := fun W => Bz s k W hs
 unfold zU
 obtain ⟨v, hv⟩ : ∃ v, hd0 ((us s).drop k) = v := ⟨_, rfl⟩
 rw [hv] at C1 ⊢
 cases hb : ((us s).drop k).isEmpty
 ·rw [hb] at C1
  rw [if_neg (by simp)]
  have C1 := Lh C1
  clear hs hv hb
  go_enter Tryz.func45, Tryz.ntmps45
  go_wp2_with fail
  refine Dm (C1.out _) fun n1 => ?_
  go_wp2
  go_ret
  exact ⟨rfl, n1, rfl⟩
 ·rw [hb] at C1
  rw [if_pos rfl]
  have C1 := Lh C1
  clear hs hv hb
  go_enter Tryz.func45, Tryz.ntmps45
  go_wp2_with fail
  refine Dm (C1.out _) fun n1 => ?_
  go_wp2
  go_ret
  exact ⟨rfl, n1, rfl⟩
theorem Ke (c : Nat) (r : List Nat) : zU (c :: r) = c := rfl
theorem Akj {c : Nat} (h : stN c = true) : ptN c = true := by
 unfold ptN ptB
 have h2 : stB (c : Int) = true := h
 rw [h2]
 rfl
end
section
structure AddT (R : List Nat) (o : Nat) (b : List Nat) (x : Nat) (k : Nat) (S : List Nat) (q : Nat) : Prop where
 len : S.length = R.length
 ws : Ws S
 far : ∀ j, j < o ∨ o + k ≤ j → S.getD j 0 = R.getD j 0
 sum : val ((S.drop o).take k) + 4294967296 ^ k * q = val ((R.drop o).take k) + x * val (b.take k)
 low : q < 4294967296
theorem AddT.start {R : List Nat} (o : Nat) (b : List Nat) (x : Nat) (hR : Ws R) : AddT R o b x 0 R 0 := ⟨rfl, hR, fun _ _ => rfl, by simp [val], by omega⟩
def Iu (R : List Nat) (o : Nat) (b : List Nat) (x k q : Nat) : Nat := q + (b.getD k 0 * x + R.getD (o + k) 0)
theorem Mq {R : List Nat} {o : Nat} {b : List Nat} {x k q : Nat} (hR : Ws R) (hb : Ws b) (hx : x < 4294967296) (hq : q < 4294967296) :
  b.getD k 0 * x ≤ 18446744065119617025 ∧ b.getD k 0 * x + R.getD (o + k) 0 < 18446744073709551616 ∧ Iu R o b x k q < 18446744073709551616 := by
 have h1 := hb.getD k
 have h2 := hR.getD (o + k)
 have h3 : b.getD k 0 * x ≤ 4294967295 * 4294967295 := Nat.mul_le_mul (by omega) (by omega)
 unfold Iu
 omega
theorem AddT.next {R : List Nat} {o : Nat} {b : List Nat} {x k : Nat} {S : List Nat} {q : Nat} (h : AddT R o b x k S q) (hR : Ws R) (hb : Ws b) (hx : x < 4294967296) (hk : k < b.length) (ho : o + k < R.length) :
  S.getD (o + k) 0 = R.getD (o + k) 0 ∧ AddT R o b x (k + 1) (S.set (o + k) (Iu R o b x k q % 4294967296)) (Iu R o b x k q / 4294967296) := by
 obtain ⟨h1, h2, h3, h4, h5⟩ := h
 have hlt := (Mq (o := o) (k := k) hR hb hx h5).2.2
 obtain ⟨t, ht⟩ : ∃ t, Iu R o b x k q = t := ⟨_, rfl⟩
 rw [ht] at hlt ⊢
 refine ⟨h3 _ (.inr (Nat.le_refl _)), by rw [List.length_set]; exact h1, h2.set (by omega), fun j hj => ?_, ?_, by omega⟩
 ·rw [Ao (by omega), h3 j (by omega)]
 ·rw [Ax _ o k (by rw [List.length_set]; omega), Ax R o k ho, Bg b k hk, Bp (by omega)]
  rw [Ep (l := S.set (o + k) (t % 4294967296)) (m := S) o k (by rw [List.length_set]; omega) (by omega) (fun j _ hj => Ao (by omega))]
  have e := Fu (4294967296 ^ k) t (val ((S.drop o).take k)) (val ((R.drop o).take k) + 4294967296 ^ k * R.getD (o + k) 0 + x * (val (b.take k) + 4294967296 ^ k * b.getD k 0)) (by
   rw [← ht]
   unfold Iu
   grind)
  rw [Nat.pow_succ]
  exact e
def Ag8 (g : Nat) (R : List Nat) (o : Nat) (b : List Nat) (x : Nat) (w : World) (e : Ending) (w' : World) : Prop :=
 ∃ S q, e = .returned (.int .u32 (q : Nat)) ∧ Row w' g S ∧ AddT R o b x b.length S q ∧ Below g w w'
theorem Qp (g o n c : Nat) (R : List Nat) (A : Option Addr) (m d : Nat) (b : List Nat) (x B : Nat) (w : World) (hR : Row w g R) (hRw : Ws R) (ho : o + n ≤ R.length) (hmn : m ≤ n) (hbl : b.length = m)
  (hB : RW w B A b) (hgB : B ≤ g) (hx : x < 4294967296) (hm : R.length ≤ 35184372088832) :
  Cp 365 #[.slice (some ⟨g, o, none⟩) n c, .slice A m d, .int .u32 x] w (Ag8 g R o b x w) := by
 rcases Nat.eq_zero_or_pos m with h0 | h0
 ·subst h0
  obtain rfl : b = [] := List.eq_nil_of_length_eq_zero hbl
  have HR := Lh hR
  have HW := Lh hRw
  clear hR hRw ho hmn hbl hB hgB hx hm
  go_enter Tryz.func365, Tryz.ntmps365
  go_wp2
  go_loop [12, 7] (fun i v => i = .int .i64 0 ∧ v = .int .u64 0) (fun _ _ => 0)
  case atStart => exact ⟨rfl, rfl⟩
  case round =>
   obtain ⟨rfl, rfl⟩ := hrel
   go_wp2
   go_ret
   exact ⟨R, 0, rfl, HR.out, AddT.start o [] x HW.out, Below.refl _ _⟩
 ·obtain ⟨a, p, rfl, hab, hc⟩ := hB.2 (by omega)
  have HBW := Lh hB.1
  have HRW := Lh hRw
  have HBL := Lh hbl
  have HC := Lh hc
  have HX := Lh hx
  have HR := Lh hR
  have hm1 : (m : Int) ≤ (n : Int) := by omega
  have hn1 : (n : Int) ≤ 35184372088832 := by omega
  have HO := Lh ho
  have hag : a < g := by omega
  have h0' : (0 : Int) ≤ (x : Int) := by omega
  clear hR hRw ho hmn hbl hB hx hm hc h0
  go_enter Tryz.func365, Tryz.ntmps365
  go_wp2
  go_loopw [12, 7] (fun i v wr => ∃ (k : Nat) (S : List Nat) (q : Nat), i = .int .i64 k ∧ v = .int .u64 (q : Nat) ∧ k ≤ m ∧ Hid (Row wr g S) ∧ Hid (AddT R o b x k S q) ∧ Below g w wr) (fun i _ _ => m - (intOf i).toNat)
  case atStart => exact ⟨0, R, 0, rfl, rfl, Nat.zero_le _, HR, Lh (AddT.start o b x HRW.out), Below.refl _ _⟩
  case round =>
   obtain ⟨k, S, q, rfl, rfl, hk, HS, HT, hbw⟩ := hrel
   by_cases hlt : k < m
   ·have hkb : k < b.length := by rw [HBL.out]; exact hlt
    have hok : o + k < R.length := by have := HO.out; omega
    obtain ⟨e1, hnext⟩ := HT.out.next HRW.out HBW.out HX.out hkb hok
    have hS := HS.out.cell (o + k) (by rw [HT.out.len]; exact hok)
    have hfz := HS.out.frozen (o + k)
    have hcl := HC.out k _ (getD_some hkb)
    rw [← hbw.cell (p := ⟨a, p + k, none⟩) hag] at hcl
    obtain ⟨l1, l2, l3⟩ := Mq (o := o) (k := k) (q := q) HRW.out HBW.out HX.out HT.out.low
    have hset := HS.out.set (o + k) (Iu R o b x k q % 4294967296)
    have HE := Lh (show Iu R o b x k q = q + (b.getD k 0 * x + R.getD (o + k) 0) from rfl)
    have u1 := HBW.out.getD k
    have r1 := HRW.out.getD (o + k)
    have q1 := HT.out.low
    rw [e1] at hS
    obtain ⟨t, ht⟩ : ∃ t, Iu R o b x k q = t := ⟨_, rfl⟩
    obtain ⟨u, hu⟩ : ∃ u, b.getD k 0 = u := ⟨_, rfl⟩
    obtain ⟨r, hr⟩ : ∃ r, R.getD (o + k) 0 = r := ⟨_, rfl⟩
    rw [ht, hu, hr] at HE
    rw [ht] at hnext hset l3
    rw [hu] at hcl l1 l2 u1
    rw [hr] at hS l2 r1
    have HNX := Lh hnext
    have k1 : IntKind.u64.wrap (u : Int) = (u : Int) := IntWalk.u64_in _ (by omega)
    have k2 : IntKind.u64.wrap (x : Int) = (x : Int) := IntWalk.u64_in _ (by have := HX.out; omega)
    have k3 : IntKind.u64.wrap (r : Int) = (r : Int) := IntWalk.u64_in _ (by omega)
    have k4 : IntKind.u64.wrap ((u : Int) * (x : Int)) = (u : Int) * (x : Int) := IntWalk.u64_in _ (by
     have : ((u * x : Nat) : Int) = (u : Int) * (x : Int) := Int.natCast_mul u x
     omega)
    have k5 : IntKind.u64.wrap ((u : Int) * (x : Int) + (r : Int)) = (u : Int) * (x : Int) + (r : Int) := IntWalk.u64_in _ (by
     have : ((u * x : Nat) : Int) = (u : Int) * (x : Int) := Int.natCast_mul u x
     omega)
    have k6 : IntKind.u64.wrap ((q : Int) + ((u : Int) * (x : Int) + (r : Int))) = (t : Int) := by
     have : ((u * x : Nat) : Int) = (u : Int) * (x : Int) := Int.natCast_mul u x
     have := HE.out
     rw [IntWalk.u64_in _ (by omega)]
     omega
    clear e1 hnext l1 l2 l3 u1 r1 q1 ht hu hr hkb hok
    rw [show ((t % 4294967296 : Nat) : Int) = (t : Int) % 4294967296 by omega] at hset
    have HSET := Lh hset
    clear hset
    go_wp2
    go_roundw
    case rel => exact ⟨k + 1, _, t / 4294967296, by go_num, by go_num, by omega, HSET, HNX, hbw.setCell (Nat.le_refl _) _⟩
    case measure => simp [intOf]; omega
   ·have HZ := Lh (show k = b.length by rw [HBL.out]; omega)
    have q1 := HT.out.low
    have k1 : IntKind.u32.wrap (q : Int) = (q : Int) := IntWalk.u32_in _ (by omega)
    have HT2 := Lh (HZ.out ▸ HT.out : AddT R o b x b.length S q)
    clear q1
    go_wp2
    go_ret
    exact ⟨S, q, rfl, HS.out, HT2.out, hbw⟩
open Go.RowKit
structure Only (g : Nat) (w w' : World) : Prop where
 below : Below g w w'
 far : ∀ k, k ≠ g → w'.heap[k]? = w.heap[k]?
theorem Only.refl (g : Nat) (w : World) : Only g w w := ⟨Below.refl _ _, fun _ _ => rfl⟩
theorem Only.trans {g : Nat} {a b c : World} (h : Only g a b) (k : Only g b c) : Only g a c := ⟨h.below.trans k.below, fun i hi => (k.far i hi).trans (h.far i hi)⟩
theorem Only.setCell {g i : Nat} {a w : World} (h : Only g a w) (u : Value) : Only g a (w.setCell ⟨g, i, none⟩ u) :=
 ⟨h.below.setCell (Nat.le_refl _) u, fun k hk => (Below.heap_setCell w ⟨g, i, none⟩ u k hk).trans (h.far k hk)⟩
theorem Only.drewN {g : Nat} {a w : World} (h : Only g a w) (n : Nat) : Only g a (w.drewN n) := ⟨Ac h.below n, h.far⟩
theorem Row.only {w w' : World} {g k : Nat} {R : List Nat} (h : Row w k R) (hk : k ≠ g) (hb : Only g w w') : Row w' k R := (hb.far k hk).trans h
def Ac9 (g : Nat) (R : List Nat) (o : Nat) (b : List Nat) (x : Nat) (w : World) (e : Ending) (w' : World) : Prop :=
 ∃ S q, e = .returned (.int .u32 (q : Nat)) ∧ Row w' g S ∧ AddT R o b x b.length S q ∧ Only g w w'
theorem O5 (g o n c : Nat) (R : List Nat) (A : Option Addr) (m d : Nat) (b : List Nat) (x B : Nat) (w : World) (hR : Row w g R) (hRw : Ws R) (ho : o + n ≤ R.length) (hmn : m ≤ n) (hbl : b.length = m)
  (hB : RW w B A b) (hgB : B ≤ g) (hx : x < 4294967296) (hm : R.length ≤ 35184372088832) :
  Cp 365 #[.slice (some ⟨g, o, none⟩) n c, .slice A m d, .int .u32 x] w (Ac9 g R o b x w) := by
 rcases Nat.eq_zero_or_pos m with h0 | h0
 ·subst h0
  obtain rfl : b = [] := List.eq_nil_of_length_eq_zero hbl
  have HR := Lh hR
  have HW := Lh hRw
  clear hR hRw ho hmn hbl hB hgB hx hm
  go_enter Tryz.func365, Tryz.ntmps365
  go_wp2
  go_loop [12, 7] (fun i v => i = .int .i64 0 ∧ v = .int .u64 0) (fun _ _ => 0)
  case atStart => exact ⟨rfl, rfl⟩
  case round =>
   obtain ⟨rfl, rfl⟩ := hrel
   go_wp2
   go_ret
   exact ⟨R, 0, rfl, HR.out, AddT.start o [] x HW.out, Only.refl _ _⟩
 ·obtain ⟨a, p, rfl, hab, hc⟩ := hB.2 (by omega)
  have HBW := Lh hB.1
  have HRW := Lh hRw
  have HBL := Lh hbl
  have HC := Lh hc
  have HX := Lh hx
  have HR := Lh hR
  have hm1 : (m : Int) ≤ (n : Int) := by omega
  have hn1 : (n : Int) ≤ 35184372088832 := by omega
  have HO := Lh ho
  have hag : a < g := by omega
  have h0' : (0 : Int) ≤ (x : Int) := by omega
  clear hR hRw ho hmn hbl hB hx hm hc h0
  go_enter Tryz.func365, Tryz.ntmps365
  go_wp2
  go_loopw [12, 7] (fun i v wr => ∃ (k : Nat) (S : List Nat) (q : Nat), i = .int .i64 k ∧ v = .int .u64 (q : Nat) ∧ k ≤ m ∧ Hid (Row wr g S) ∧ Hid (AddT R o b x k S q) ∧ Only g w wr) (fun i _ _ => m - (intOf i).toNat)
  case atStart => exact ⟨0, R, 0, rfl, rfl, Nat.zero_le _, HR, Lh (AddT.start o b x HRW.out), Only.refl _ _⟩
  case round =>
   obtain ⟨k, S, q, rfl, rfl, hk, HS, HT, hbw⟩ := hrel
   by_cases hlt : k < m
   ·have hkb : k < b.length := by rw [HBL.out]; exact hlt
    have hok : o + k < R.length := by have := HO.out; omega
    obtain ⟨e1, hnext⟩ := HT.out.next HRW.out HBW.out HX.out hkb hok
    have hS := HS.out.cell (o + k) (by rw [HT.out.len]; exact hok)
    have hfz := HS.out.frozen (o + k)
    have hcl := HC.out k _ (getD_some hkb)
    rw [← hbw.below.cell (p := ⟨a, p + k, none⟩) hag] at hcl
    obtain ⟨l1, l2, l3⟩ := Mq (o := o) (k := k) (q := q) HRW.out HBW.out HX.out HT.out.low
    have hset := HS.out.set (o + k) (Iu R o b x k q % 4294967296)
    have HE := Lh (show Iu R o b x k q = q + (b.getD k 0 * x + R.getD (o + k) 0) from rfl)
    have u1 := HBW.out.getD k
    have r1 := HRW.out.getD (o + k)
    have q1 := HT.out.low
    rw [e1] at hS
    obtain ⟨t, ht⟩ : ∃ t, Iu R o b x k q = t := ⟨_, rfl⟩
    obtain ⟨u, hu⟩ : ∃ u, b.getD k 0 = u := ⟨_, rfl⟩
    obtain ⟨r, hr⟩ : ∃ r, R.getD (o + k) 0 = r := ⟨_, rfl⟩
    rw [ht, hu, hr] at HE
    rw [ht] at hnext hset l3
    rw [hu] at hcl l1 l2 u1
    rw [hr] at hS l2 r1
    have HNX := Lh hnext
    have k1 : IntKind.u64.wrap (u : Int) = (u : Int) := IntWalk.u64_in _ (by omega)
    have k2 : IntKind.u64.wrap (x : Int) = (x : Int) := IntWalk.u64_in _ (by have := HX.out; omega)
    have k3 : IntKind.u64.wrap (r : Int) = (r : Int) := IntWalk.u64_in _ (by omega)
    have k4 : IntKind.u64.wrap ((u : Int) * (x : Int)) = (u : Int) * (x : Int) := IntWalk.u64_in _ (by
     have : ((u * x : Nat) : Int) = (u : Int) * (x : Int) := Int.natCast_mul u x
     omega)
    have k5 : IntKind.u64.wrap ((u : Int) * (x : Int) + (r : Int)) = (u : Int) * (x : Int) + (r : Int) := IntWalk.u64_in _ (by
     have : ((u * x : Nat) : Int) = (u : Int) * (x : Int) := Int.natCast_mul u x
     omega)
    have k6 : IntKind.u64.wrap ((q : Int) + ((u : Int) * (x : Int) + (r : Int))) = (t : Int) := by
     have : ((u * x : Nat) : Int) = (u : Int) * (x : Int) := Int.natCast_mul u x
     have := HE.out
     rw [IntWalk.u64_in _ (by omega)]
     omega
    clear e1 hnext l1 l2 l3 u1 r1 q1 ht hu hr hkb hok
    rw [show ((t % 4294967296 : Nat) : Int) = (t : Int) % 4294967296 by omega] at hset
    have HSET := Lh hset
    clear hset
    go_wp2
    go_roundw
    case rel => exact ⟨k + 1, _, t / 4294967296, by go_num, by go_num, by omega, HSET, HNX, hbw.setCell _⟩
    case measure => simp [intOf]; omega
   ·have HZ := Lh (show k = b.length by rw [HBL.out]; omega)
    have q1 := HT.out.low
    have k1 : IntKind.u32.wrap (q : Int) = (q : Int) := IntWalk.u32_in _ (by omega)
    have HT2 := Lh (HZ.out ▸ HT.out : AddT R o b x b.length S q)
    clear q1
    go_wp2
    go_ret
    exact ⟨S, q, rfl, HS.out, HT2.out, hbw⟩

open Go.RowKit
def Am (v : Nat) : Bool := decide (1024 < (wds v).length)
def NatPost (v : Nat) (w : World) (e : Ending) (w' : World) : Prop :=
 ∃ A n c k, e = .returned (.tuple #[.slice A n c, .int .i64 (k : Nat)]) ∧ (if Am v = true then A = none ∧ n = 0 ∧ c = 0 ∧ k = 3 else n = (wds v).length ∧ n ≤ c ∧ k = 0 ∧ RW w' w'.heap.size A (wds v)) ∧ Below w.heap.size w w'
def F1 (k : Nat) (w : World) (e : Ending) (w' : World) : Prop := e = .returned (.tuple #[.slice none 0 0, .int .i64 (k : Nat)]) ∧ Below w.heap.size w w'
theorem NatPost.long {v : Nat} {w w' : World} (h : Am v = true) (hb : Below w.heap.size w w') : NatPost v w (.returned (.tuple #[.slice none 0 0, .int .i64 3])) w' :=
 ⟨none, 0, 0, 3, rfl, by rw [if_pos h]; exact ⟨rfl, rfl, rfl, rfl⟩, hb⟩
theorem NatPost.ok {v : Nat} {w w' : World} {A : Option Addr} {n c : Nat} (h : Am v = false) (hn : n = (wds v).length) (hc : n ≤ c) (hr : RW w' w'.heap.size A (wds v)) (hb : Below w.heap.size w w') : NatPost v w (.returned (.tuple #[.slice A n c, .int .i64 0])) w' :=
 ⟨A, n, c, 0, rfl, by rw [if_neg (by rw [h]; simp)]; exact ⟨hn, hc, rfl, hr⟩, hb⟩
theorem NatPost.from_ {v : Nat} {w w1 w' : World} {e : Ending} (hb : Below w.heap.size w w1) (h : NatPost v w1 e w') : NatPost v w e w' := by
 obtain ⟨A, n, c, k, h1, h2, h3⟩ := h
 exact ⟨A, n, c, k, h1, h2, Aa hb h3⟩
theorem Kd {l : List Nat} (h : Ws l) : Am (val l) = decide (1024 < (nrm l).length) := by unfold Am; rw [Be h]
theorem Acc (A : Option Addr) (n c : Nat) (l : List Nat) (B : Nat) (w : World) (hn : l.length = n) (hc : n ≤ c) (hm : n ≤ 35184372088832) (h : RW w B A l) :
  Ct 345 #[.slice A n c] (.bool (Am (val l))) w := by
 have c1 := (Bs A n c l B w hn hc hm h).mono (fun e w' x => SlPost.of h.1.nrm x)
 have hle := Aw l
 rw [Kd h.1]
 obtain ⟨m, hm0⟩ : ∃ m, (nrm l).length = m := ⟨_, rfl⟩
 have h1 : (m : Int) ≤ 35184372088832 := by omega
 have HM := Lh hm0
 rw [hm0]
 clear hn hc hm h hle hm0
 go_enter Tryz.func345, Tryz.ntmps345
 go_wp2_with fail
 refine c1.mono ?_
 rintro e w' ⟨v, rfl, ⟨A2, c2, rfl, _, _⟩, hb⟩
 rw [HM.out]
 go_wp2
 go_ret
 exact ⟨Fs (decide_eq_decide.2 (by omega)), hb⟩
abbrev Hi (w : World) (v u : Value) : World := w.alloc (.cells #[v, u] 180)
abbrev lone (w : World) (v : Value) : World := w.alloc (.cells #[v] 180)
theorem V6 (w : World) (v u : Value) : (Hi w v u).cell? ⟨w.heap.size, 0, none⟩ = some v := by
 rw [cell_of_row _ _ _ _ _ _ (heap_alloc_new w (.cells #[v, u] 180))]; rfl
theorem Xp (w : World) (v u : Value) : (Hi w v u).cell? ⟨w.heap.size, 1, none⟩ = some u := by
 rw [cell_of_row _ _ _ _ _ _ (heap_alloc_new w (.cells #[v, u] 180))]; rfl
theorem Yc (w : World) (v : Value) : (lone w v).cell? ⟨w.heap.size, 0, none⟩ = some v := by
 rw [cell_of_row _ _ _ _ _ _ (heap_alloc_new w (.cells #[v] 180))]; rfl
theorem Dw (A C : Option Addr) (n c m d : Nat) (l k : List Nat) (w : World) (hn : l.length = n) (hc : n ≤ c) (hm : n ≤ 35184372088832) (h : RW w w.heap.size A l)
    (gn : k.length = m) (gc : m ≤ d) (gm : m ≤ 35184372088832) (g : RW w w.heap.size C k) :
    Cp 301 #[.slice (some ⟨w.heap.size, 0, none⟩) 2 2] (Hi w (.slice A n c) (.slice C m d)) fun e w' => e = .returned (.bool (Am (val l) || Am (val k))) ∧ Hi w (.slice A n c) (.slice C m d) = w' := by
  have hp : Below w.heap.size w (Hi w (.slice A n c) (.slice C m d)) := (Below.refl _ _).alloc (Nat.le_refl _) _
  have c1 := Av A n c l w.heap.size _ hn hc hm (h.below hp)
  have c2 := Av C m d k w.heap.size _ gn gc gm (g.below hp)
  have d1 := V6 w (.slice A n c) (.slice C m d)
  have d2 := Xp w (.slice A n c) (.slice C m d)
  have e1 := Kd h.1
  have e2 := Kd g.1
  have hl1 := Aw l
  have hl2 := Aw k
  obtain ⟨N, hN⟩ : ∃ N, (nrm l).length = N := ⟨_, rfl⟩
  obtain ⟨M, hM⟩ : ∃ M, (nrm k).length = M := ⟨_, rfl⟩
  rw [hN] at c1 e1
  rw [hM] at c2 e2
  rw [e1, e2]
  have hN1 : (N : Int) ≤ 35184372088832 := by omega
  have hM1 : (M : Int) ≤ 35184372088832 := by omega
  clear hp h g hn hc hm gn gc gm e1 e2 hl1 hl2 hN hM
  generalize Hi w (.slice A n c) (.slice C m d) = W at c1 c2 d1 d2 ⊢
  by_cases hA : 1024 < N
  · have hA' : (1024 : Int) < (N : Int) := by omega
    rw [show decide (1024 < N) = true from decide_eq_true hA, Bool.true_or]
    clear hA
    go_enter Tryz.func301, Tryz.ntmps301
    go_wp2
    go_loop [7] (fun i => i = .int .i64 0) (fun _ => 0)
    case atStart => exact rfl
    case round =>
      obtain rfl := hrel
      go_wp2_with fail
      refine c1.mono ?_
      rintro e w' ⟨rfl, rfl⟩
      go_wp2
      go_ret
      exact ⟨rfl, rfl⟩
  · have hA' : ¬ (1024 : Int) < (N : Int) := by omega
    rw [show decide (1024 < N) = false from decide_eq_false hA, Bool.false_or]
    clear hA
    have rel2 : decide (1024 < M) = true ∧ (1024 : Int) < (M : Int) ∨ decide (1024 < M) = false ∧ ¬ (1024 : Int) < (M : Int) := by
      by_cases hB : 1024 < M
      · exact .inl ⟨decide_eq_true hB, by omega⟩
      · exact .inr ⟨decide_eq_false hB, by omega⟩
    rcases rel2 with ⟨hb, hB⟩ | ⟨hb, hB⟩
    all_goals
      rw [hb]
      clear hb
      go_enter Tryz.func301, Tryz.ntmps301
      go_wp2
      go_loop [7] (fun i => i = .int .i64 0 ∨ i = .int .i64 1 ∨ (i = .int .i64 2 ∧ ¬ (1024 : Int) < (M : Int))) (fun i => 2 - (intOf i).toNat)
      case atStart => exact .inl rfl
      case round =>
        rcases hrel with rfl | rfl | ⟨rfl, hB2⟩
        · go_wp2_with fail
          refine c1.mono ?_
          rintro e w' ⟨rfl, rfl⟩
          go_wp2
          go_round
          case rel => exact .inr (.inl rfl)
          case measure => simp [intOf]
        · go_wp2_with fail
          refine c2.mono ?_
          rintro e w' ⟨rfl, rfl⟩
          go_wp2
          first
            | (go_ret; exact ⟨rfl, rfl⟩)
            | (go_round
               case rel => exact .inr (.inr ⟨rfl, by omega⟩)
               case measure => simp [intOf])
        · first
            | (exact absurd hB hB2)
            | (go_wp2
               go_ret
               exact ⟨rfl, rfl⟩)
theorem De (A : Option Addr) (n c : Nat) (l : List Nat) (w : World) (hn : l.length = n) (hc : n ≤ c) (hm : n ≤ 35184372088832) (h : RW w w.heap.size A l) :
  Cp 301 #[.slice (some ⟨w.heap.size, 0, none⟩) 1 1] (lone w (.slice A n c)) fun e w' => e = .returned (.bool (Am (val l))) ∧ lone w (.slice A n c) = w' := by
 have hp : Below w.heap.size w (lone w (.slice A n c)) := (Below.refl _ _).alloc (Nat.le_refl _) _
 have c1 := Av A n c l w.heap.size _ hn hc hm (h.below hp)
 have d1 := Yc w (.slice A n c)
 have e1 := Kd h.1
 have hl1 := Aw l
 obtain ⟨N, hN⟩ : ∃ N, (nrm l).length = N := ⟨_, rfl⟩
 rw [hN] at c1 e1
 rw [e1]
 have hN1 : (N : Int) ≤ 35184372088832 := by omega
 clear hp h hn hc hm e1 hl1 hN
 generalize lone w (.slice A n c) = W at c1 d1 ⊢
 by_cases hA : 1024 < N
 ·have hA' : (1024 : Int) < (N : Int) := by omega
  rw [show decide (1024 < N) = true from decide_eq_true hA]
  clear hA
  go_enter Tryz.func301, Tryz.ntmps301
  go_wp2
  go_loop [7] (fun i => i = .int .i64 0) (fun _ => 0)
  case atStart => exact rfl
  case round =>
   obtain rfl := hrel
   go_wp2_with fail
   refine c1.mono ?_
   rintro e w' ⟨rfl, rfl⟩
   go_wp2
   go_ret
   exact ⟨rfl, rfl⟩
 ·have hA' : ¬ (1024 : Int) < (N : Int) := by omega
  rw [show decide (1024 < N) = false from decide_eq_false hA]
  clear hA
  go_enter Tryz.func301, Tryz.ntmps301
  go_wp2
  go_loop [7] (fun i => i = .int .i64 0 ∨ i = .int .i64 1) (fun i => 1 - (intOf i).toNat)
  case atStart => exact .inl rfl
  case round =>
   rcases hrel with rfl | rfl
   ·go_wp2_with fail
    refine c1.mono ?_
    rintro e w' ⟨rfl, rfl⟩
    go_wp2
    go_round
    case rel => exact .inr rfl
    case measure => simp [intOf]
   ·go_wp2
    go_ret
    exact ⟨rfl, rfl⟩
theorem Iw (A : Option Addr) (n c : Nat) (l : List Nat) (w : World) (hn : l.length = n) (hc : n ≤ c) (hm : n ≤ 35184372088832) (h : RW w w.heap.size A l) :
  Cp 302 #[.slice A n c] w (NatPost (val l) w) := by
 have c1 := De A n c l w hn hc hm h
 have hp : Below w.heap.size w (lone w (.slice A n c)) := (Below.refl _ _).alloc (Nat.le_refl _) _
 have c2 := Av A n c l w.heap.size _ hn hc hm (h.below hp)
 cases hl : Am (val l)
 ·rw [hl] at c1
  have HL := Lh hl
  rw [Be h.1] at c2
  have HR := Lh (show RW (lone w (.slice A n c)) (lone w (.slice A n c)).heap.size A (wds (val l)) by rw [← Be h.1]; exact (h.step hp).nrm)
  have HP := Lh hp
  clear hn hc hm h hl hp
  go_enter Tryz.func302, Tryz.ntmps302
  go_wp2_with fail
  refine c1.mono ?_
  rintro e w1 ⟨rfl, rfl⟩
  go_wp2_with fail
  refine c2.mono ?_
  rintro e w1 ⟨rfl, rfl⟩
  go_wp2
  go_ret2
  exact NatPost.ok HL.out rfl (Nat.le_refl _) HR.out HP.out
 ·rw [hl] at c1
  have HL := Lh hl
  have HP := Lh hp
  clear hn hc hm h hl hp c2
  go_enter Tryz.func302, Tryz.ntmps302
  go_wp2_with fail
  refine c1.mono ?_
  rintro e w1 ⟨rfl, rfl⟩
  go_wp2
  go_ret2
  exact NatPost.long HL.out HP.out

open Go.RowKit
structure MulT (a b : List Nat) (i : Nat) (P : List Nat) : Prop where
 len : P.length = a.length + b.length
 ws : Ws P
 zeros : ∀ j, i + b.length ≤ j → P.getD j 0 = 0
 sum : val (P.take (i + b.length)) = val (a.take i) * val b
theorem MulT.start (a b : List Nat) : MulT a b 0 (List.replicate (a.length + b.length) 0) :=
 ⟨List.length_replicate, Ws.zeros _, fun j _ => Nd _ j, by
  rw [List.take_replicate, Gi]; simp [val]⟩
theorem MulT.next {a b : List Nat} {i : Nat} {P S : List Nat} {q : Nat} (h : MulT a b i P) (hi : i < a.length) (hS : AddT P i b (a.getD i 0) b.length S q) : MulT a b (i + 1) (S.set (i + b.length) q) := by
 obtain ⟨h1, h2, h3, h4⟩ := h
 obtain ⟨g1, g2, g3, g4, g5⟩ := hS
 refine ⟨by rw [List.length_set]; omega, g2.set g5, fun j hj => ?_, ?_⟩
 ·rw [Ao (by omega), g3 j (by omega), h3 j (by omega)]
 ·have hb : b.take b.length = b := List.take_of_length_le (Nat.le_refl _)
  rw [hb] at g4
  have e1 : (S.set (i + b.length) q).take (i + 1 + b.length) = (S.set (i + b.length) q).take (i + b.length + 1) := by congr 1; omega
  rw [e1, Bg _ _ (by rw [List.length_set]; omega), Bp (by omega), Bg a i hi]
  rw [Co (l := S.set (i + b.length) q) (m := S) (i + b.length) (by rw [List.length_set]; omega) (by omega) (fun j hj => Ao (by omega))]
  rw [Fq S i b.length (by omega)]
  rw [Co (l := S) (m := P) i (by omega) (by omega) (fun j hj => g3 j (by omega))]
  rw [Fq P i b.length (by omega)] at h4
  rw [Nat.pow_add]
  have e2 : val (P.take i) + 4294967296 ^ i * val ((S.drop i).take b.length) + 4294967296 ^ i * 4294967296 ^ b.length * q = val (P.take i) + 4294967296 ^ i * (val ((S.drop i).take b.length) + 4294967296 ^ b.length * q) := by grind
  rw [e2, g4]
  grind
theorem MulT.whole {a b : List Nat} {P : List Nat} (h : MulT a b a.length P) : val P = val a * val b := by
 have := h.sum
 rw [List.take_of_length_le (by rw [h.len]; exact Nat.le_refl _), List.take_of_length_le (Nat.le_refl _)] at this
 exact this
def Mk (v u : Nat) (w : World) (e : Ending) (w' : World) : Prop := if (Am v || Am u) = true then F1 3 w e w' else NatPost (v * u) w e w'
theorem Fd {l : List Nat} (h : Ws l) (hl : Am (val l) = false) : (nrm l).length ≤ 1024 := by
 rw [Kd h] at hl
 have := of_decide_eq_false hl
 omega
theorem Xk (A C : Option Addr) (n c m d : Nat) (l k : List Nat) (w : World) (hn : l.length = n) (hc : n ≤ c) (hm : n ≤ 35184372088832) (h : RW w w.heap.size A l)
  (gn : k.length = m) (gc : m ≤ d) (gm : m ≤ 35184372088832) (g : RW w w.heap.size C k) (hl : (Am (val l) || Am (val k)) = false) :
  Cp 338 #[.slice A n c, .slice C m d] w (NatPost (val l * val k) w) := by
 have c1 := Dw A C n c m d l k w hn hc hm h gn gc gm g
 have hp : Below w.heap.size w (Hi w (.slice A n c) (.slice C m d)) := (Below.refl _ _).alloc (Nat.le_refl _) _
 rw [hl] at c1
 obtain ⟨hl1, hl2⟩ : Am (val l) = false ∧ Am (val k) = false := by simpa using hl
 have c2 := Av A n c l w.heap.size _ hn hc hm (h.below hp)
 have c3 := Av C m d k w.heap.size _ gn gc gm (g.below hp)
 have n1 := Fd h.1 hl1
 have n2 := Fd g.1 hl2
 obtain ⟨a, ha⟩ : ∃ a, nrm l = a := ⟨_, rfl⟩
 obtain ⟨b, hb⟩ : ∃ b, nrm k = b := ⟨_, rfl⟩
 have hA := h.nrm
 have hB := g.nrm
 rw [ha] at n1 c2 hA
 rw [hb] at n2 c3 hB
 rw [← Ar l, ← Ar k, ha, hb]
 obtain ⟨N, hN⟩ : ∃ N, a.length = N := ⟨_, rfl⟩
 obtain ⟨M, hM⟩ : ∃ M, b.length = M := ⟨_, rfl⟩
 rw [hN] at n1 c2
 rw [hM] at n2 c3
 clear h g hn hc hm gn gc gm hl hl1 hl2 ha hb
 obtain ⟨W, hW⟩ : ∃ W, Hi w (.slice A n c) (.slice C m d) = W := ⟨_, rfl⟩
 rw [hW] at c1 c2 c3 hp
 have HW := Lh hW
 have hmk := run_make_row' (P := Tryz.prog) 180 156 (.int .u32 0) 4 Tryz.underlying180 Ei rfl .i64 .i64 (N + M) (by omega) (by omega) W
 rw [show ((N + M : Nat) : Int) = (N : Int) + (M : Int) by omega] at hmk
 have hrow := Row.made W (N + M)
 have hN1 : (N : Int) ≤ 1024 := by omega
 have hM1 : (M : Int) ≤ 1024 := by omega
 have HN := Lh hN
 have HM := Lh hM
 have HA := Lh hA
 have HB := Lh hB
 have hgW := hp.size
 have HP := Lh hp
 have HROW := Lh hrow
 have hbl0 : Below w.heap.size w (W.alloc (.cells (madeCells #[.int .u32 0] (N + M)) 156)) := hp.alloc hp.size _
 have HBL := Lh hbl0
 clear hA hB hN hM hp hrow n1 n2 hbl0 hW
 go_enter Tryz.func338, Tryz.ntmps338
 go_wp2_with fail
 rw [show w.alloc (.cells #[.slice A n c, .slice C m d] 180) = W from HW.out]
 refine c1.mono ?_
 rintro e w1 ⟨rfl, rfl⟩
 go_wp2_with fail
 refine c2.mono ?_
 rintro e w1 ⟨rfl, rfl⟩
 go_wp2_with fail
 refine c3.mono ?_
 rintro e w1 ⟨rfl, rfl⟩
 clear c1 c2 c3
 go_wp2
 go_loopw [25] (fun i wr => ∃ (q : Nat) (P : List Nat), i = .int .i64 q ∧ q ≤ N ∧ Hid (Row wr W.heap.size P) ∧ Hid (MulT a b q P) ∧ Below w.heap.size w wr) (fun i _ => N - (intOf i).toNat)
 case atStart => exact ⟨0, _, rfl, Nat.zero_le _, HROW, Lh (by have := MulT.start a b; rw [HN.out, HM.out] at this; exact this), HBL.out⟩
 case round =>
  obtain ⟨q, P, rfl, hq, HR, HT, hbw⟩ := hrel
  by_cases hlt : q < N
  ·have hqa : q < a.length := by rw [HN.out]; exact hlt
   obtain ⟨ab, ao, rfl, hab, hca⟩ := HA.out.2 (by omega)
   have hcl := hca q _ (getD_some hqa)
   rw [← hbw.cell (p := ⟨ab, ao + q, none⟩) hab] at hcl
   have hx := HA.out.1.getD q
   have hPl : P.length = N + M := by rw [HT.out.len, HN.out, HM.out]
   obtain ⟨x, hxe⟩ : ∃ x, a.getD q 0 = x := ⟨_, rfl⟩
   rw [hxe] at hcl hx
   have C1 := Lh (Qp W.heap.size q (N + M - q) (N + M - q) P C M M b x w.heap.size wr HR.out HT.out.ws (by omega) (by omega) HM.out (HB.out.below hbw) hgW hx (by omega))
   have HX := Lh hxe
   have HPL := Lh hPl
   have hq1 : (q : Int) < (N : Int) := by omega
   have hq2 : ((N + M : Nat) == q) = false := by simp; omega
   have HNX := Lh (fun S r (h : AddT P q b x b.length S r) => HT.out.next hqa (by rw [hxe]; exact h))
   clear hqa hab hca hx hPl hxe
   go_wp2_with fail
   refine C1.out.mono ?_
   rintro e w2 ⟨S, r, rfl, hrow2, hadd, hb2⟩
   have hSl : S.length = N + M := by rw [hadd.len]; exact HPL.out
   have hcell2 := hrow2.cell (q + M) (by omega)
   have hfz2 := hrow2.frozen (q + M)
   have HSET := Lh (hrow2.set (q + M) r)
   have HMT := Lh (show MulT a b (q + 1) (S.set (q + M) r) by have := HNX.out S r hadd; rw [HM.out] at this; exact this)
   have hbw2 : Below w.heap.size w w2 := hbw.trans (hb2.mono hgW)
   clear hrow2 hadd hSl C1
   go_wp2
   go_roundw
   case rel => exact ⟨q + 1, _, by go_num, by omega, HSET, HMT, hbw2.setCell hgW _⟩
   case measure => simp [intOf]; omega
  ·have hqN : q = N := by omega
   have HMT := Lh (show MulT a b a.length P by rw [HN.out, ← hqN]; exact HT.out)
   have hPl : P.length = N + M := by rw [HT.out.len, HN.out, HM.out]
   have hlt2 := HR.out.lt
   have C1 := Lh (Iw (some ⟨W.heap.size, 0, none⟩) (N + M) (N + M) P wr hPl (Nat.le_refl _) (by omega) ((HR.out.rw0 HT.out.ws).more hlt2))
   have HV := Lh HMT.out.whole
   clear hPl hqN hlt2
   go_wp2_with fail
   refine C1.out.mono ?_
   rintro e w2 h
   have h2 := NatPost.from_ hbw h
   rw [HV.out] at h2
   obtain ⟨A2, n2, c2, k2, rfl, h3, h4⟩ := h2
   have H3 := Lh h3
   have H4 := Lh h4
   clear h h3 h4 C1
   go_wp2
   go_ret2
   exact ⟨A2, n2, c2, k2, rfl, H3.out, H4.out⟩
theorem Age (A C : Option Addr) (n c m d : Nat) (l k : List Nat) (w : World) (hn : l.length = n) (hc : n ≤ c) (hm : n ≤ 35184372088832) (h : RW w w.heap.size A l)
  (gn : k.length = m) (gc : m ≤ d) (gm : m ≤ 35184372088832) (g : RW w w.heap.size C k) (hl : (Am (val l) || Am (val k)) = true) :
  Cp 338 #[.slice A n c, .slice C m d] w (F1 3 w) := by
 have c1 := Dw A C n c m d l k w hn hc hm h gn gc gm g
 have hp : Below w.heap.size w (Hi w (.slice A n c) (.slice C m d)) := (Below.refl _ _).alloc (Nat.le_refl _) _
 rw [hl] at c1
 have HP := Lh hp
 clear h g hn hc hm gn gc gm hl hp
 go_enter Tryz.func338, Tryz.ntmps338
 go_wp2_with fail
 refine c1.mono ?_
 rintro e w1 ⟨rfl, rfl⟩
 go_wp2
 go_ret2
 exact ⟨rfl, HP.out⟩
theorem Ah3 (A C : Option Addr) (n c m d : Nat) (l k : List Nat) (w : World) (hn : l.length = n) (hc : n ≤ c) (hm : n ≤ 35184372088832) (h : RW w w.heap.size A l)
  (gn : k.length = m) (gc : m ≤ d) (gm : m ≤ 35184372088832) (g : RW w w.heap.size C k) :
  Cp 338 #[.slice A n c, .slice C m d] w (Mk (val l) (val k) w) := by
 cases hl : (Am (val l) || Am (val k))
 ·exact (Xk A C n c m d l k w hn hc hm h gn gc gm g hl).mono (fun e w' x => by unfold Mk; rw [if_neg (by rw [hl]; simp)]; exact x)
 ·exact (Age A C n c m d l k w hn hc hm h gn gc gm g hl).mono (fun e w' x => by unfold Mk; rw [if_pos hl]; exact x)
theorem Zy (w : World) (x : Nat) (hx : x < 4294967296) : RW (w.alloc (.cells #[.int .u32 (x : Int)] 156)) (w.heap.size + 1) (some ⟨w.heap.size, 0, none⟩) [x] := ⟨Ws.cons hx Ws.nil, fun _ => by
 refine ⟨w.heap.size, 0, rfl, by omega, fun k u hu => ?_⟩
 rw [Nat.zero_add, cell_of_row _ _ _ _ _ _ (heap_alloc_new w (.cells #[.int .u32 (x : Int)] 156))]
 match k, hu with
 | 0, hu => simp at hu; subst hu; rfl
 | k + 1, hu => simp at hu⟩
theorem D0 {v : Nat} (h : v < 4294967296) : Am v = false := by
 unfold Am
 have := Bd (n := v) (k := 1) (by simpa using h)
 exact decide_eq_false (by omega)
theorem NatPost.get {v : Nat} {w w' : World} {e : Ending} (h : NatPost v w e w') (hl : Am v = false) : ∃ A c, e = .returned (.tuple #[.slice A (wds v).length c, .int .i64 0]) ∧ ((wds v).length ≤ c ∧ RW w' w'.heap.size A (wds v)) ∧ Below w.heap.size w w' := by
 obtain ⟨A, n, c, k, h1, h2, h3⟩ := h
 rw [if_neg (by rw [hl]; simp)] at h2
 obtain ⟨rfl, h4, rfl, h5⟩ := h2
 exact ⟨A, c, h1, ⟨h4, h5⟩, h3⟩
open Go.ChangeShapes Go.WideShapes Go.ChangeAt Go.RowKit
theorem own : ownKnob Tryz.prog.godebug = none := by kernel_rfl
open Go.RowKit
theorem Akg : (Tryz.prog.info? 5).map (fun i => (i.zero, i.size, i.bytes)) = some (some (.int .u8 0), 1, 1) := by kernel_rfl
def Ad (l : List Nat) : ByteArray := ⟨(l.map UInt8.ofNat).toArray⟩
def bl (s : ByteArray) : List Nat := s.data.toList.map UInt8.toNat
theorem Al {l : List Nat} (h : ∀ u ∈ l, u < 256) : bl (Ad l) = l := by
 unfold bl Ad
 simp only [List.map_map]
 conv => rhs; rw [← List.map_id l]
 refine List.map_congr_left (fun u hu => ?_)
 have := h u hu
 simp
 omega
theorem Aja (s : ByteArray) : (bl s).length = s.size := by unfold bl; rw [List.length_map]; rfl
theorem Sa {s t : ByteArray} (h : bl s = bl t) : s = t := by
 apply ByteArray.ext
 apply Array.toList_inj.1
 unfold bl at h
 exact (List.map_inj_right (fun a b hab => UInt8.toNat_inj.1 hab)).1 h
theorem Cg (s : ByteArray) (k : Nat) (h : k < s.size) : (bl s)[k]? = some (s[k]'h).toNat := by
 unfold bl
 rw [List.getElem?_map]
 have : s.data.toList[k]? = some (s[k]'h) := by rw [Array.getElem?_toList, Array.getElem?_eq_getElem (by exact h)]; rfl
 rw [this]; rfl
theorem Zr (s : ByteArray) (k : Nat) : bl (s.extract k s.size) = (bl s).drop k := by
 unfold bl
 rw [← List.map_drop]
 congr 1
 simp only [ByteArray.data_extract, Array.toList_extract, List.extract]
 exact List.take_of_length_le (by simp)
open Go.RowKit
theorem Ez (A : Option Addr) (n c i : Nat) (l : List Nat) (B : Nat) (w : World) (hn : l.length = n) (hm : n ≤ 35184372088832) (h : RW w B A l) :
  Cq 329 #[.slice A n c, .int .i64 i] (.int .u32 (l.getD i 0 : Nat)) w := by
 by_cases hi : i < n
 ·obtain ⟨b, off, rfl, _, hc⟩ := h.2 (by omega)
  have hcell := hc i _ (getD_some (by omega))
  obtain ⟨u, hu⟩ : ∃ u, l.getD i 0 = u := ⟨_, rfl⟩
  rw [hu] at hcell ⊢
  have h0 : decide ((i : Int) < 0) = false := by simp
  have h1 : decide (n ≤ i) = false := by simp; omega
  have h3 : (i : Int) < (n : Int) := by omega
  have h2 : (n : Int) ≤ 35184372088832 := by omega
  clear hn hm h hc hu hi
  go_enter Tryz.func329, Tryz.ntmps329
  go_wp2
  go_ret
  exact ⟨rfl, rfl⟩
 ·have e : l.getD i 0 = 0 := Id (by omega)
  rw [e]
  have h0 : decide ((i : Int) < 0) = false := by simp
  have h1 : (n : Int) ≤ (i : Int) := by omega
  clear hn hm h e hi
  go_enter Tryz.func329, Tryz.ntmps329
  go_wp2
  go_ret
  exact ⟨rfl, rfl⟩
theorem Ago (A : Option Addr) (n c : Nat) (w : World) :
  Cq 329 #[.slice A n c, .int .i64 (-1)] (.int .u32 0) w := by
 go_enter Tryz.func329, Tryz.ntmps329
 go_wp2
 go_ret
 exact ⟨rfl, rfl⟩
theorem OwnW.snoc {B : Nat} {L : List Nat} {u : Nat} {v : Value} {w : World} (h : w.ownsRow B 156 1 v (L.length + 1) (L.map (fun u => Value.int .u32 (u : Nat)) ++ [Value.int .u32 (u : Nat)])) : OwnW B (L ++ [u]) v w := by
 unfold OwnW
 rw [List.length_append, List.map_append]
 exact h
open Go.RowKit
theorem Ol (c : Nat) (w : World) (hc : c < 256) :
  Cq 335 #[.int .u8 c] (.int .i64 (dgt c : Nat)) w := by
 have k0 : IntKind.u8.wrap ((c : Int) - 48) = (c : Int) - 48 ∨ ¬ (48 ≤ c) := by
  by_cases h : 48 ≤ c
  ·exact .inl (by rw [IntKind.wrap_u8]; omega)
  ·exact .inr h
 have k1 : IntKind.u8.wrap ((c : Int) - 97) = (c : Int) - 97 ∨ ¬ (97 ≤ c) := by
  by_cases h : 97 ≤ c
  ·exact .inl (by rw [IntKind.wrap_u8]; omega)
  ·exact .inr h
 have k2 : IntKind.u8.wrap ((c : Int) - 65) = (c : Int) - 65 ∨ ¬ (65 ≤ c) := by
  by_cases h : 65 ≤ c
  ·exact .inl (by rw [IntKind.wrap_u8]; omega)
  ·exact .inr h
 unfold dgt
 by_cases h1 : 48 ≤ c ∧ c ≤ 57
 ·rw [if_pos h1]
  have a1 : (48 : Int) ≤ (c : Int) := by omega
  have a2 : (c : Int) ≤ 57 := by omega
  have e := k0.resolve_right (fun h => h h1.1)
  have e2 : IntKind.i64.wrap ((c : Int) - 48) = ((c - 48 : Nat) : Int) := by rw [IntWalk.i64_in _ (by omega)]; omega
  clear h1 k0 k1 k2 hc
  go_enter Tryz.func335, Tryz.ntmps335
  go_wp2
  go_ret
  exact ⟨by first | rfl | (rw [e2]), rfl⟩
 ·rw [if_neg h1]
  by_cases h2 : 97 ≤ c ∧ c ≤ 122
  ·rw [if_pos h2]
   have a1 : (48 : Int) ≤ (c : Int) := by omega
   have a2 : ¬ (c : Int) ≤ 57 := by omega
   have a3 : (97 : Int) ≤ (c : Int) := by omega
   have a4 : (c : Int) ≤ 122 := by omega
   have e := k1.resolve_right (fun h => h h2.1)
   have e2 : IntKind.i64.wrap ((c : Int) - 97) = (c : Int) - 97 := IntWalk.i64_in _ (by omega)
   have e3 : IntKind.i64.wrap ((c : Int) - 97 + 10) = ((c - 97 + 10 : Nat) : Int) := by rw [IntWalk.i64_in _ (by omega)]; omega
   clear h1 h2 k0 k1 k2 hc
   go_enter Tryz.func335, Tryz.ntmps335
   go_wp2
   go_ret
   exact ⟨by first | rfl | (rw [e3]), rfl⟩
  ·rw [if_neg h2]
   by_cases h3 : 65 ≤ c ∧ c ≤ 90
   ·rw [if_pos h3]
    have a1 : (48 : Int) ≤ (c : Int) := by omega
    have a2 : ¬ (c : Int) ≤ 57 := by omega
    have a3 : ¬ (97 : Int) ≤ (c : Int) := by omega
    have a5 : (65 : Int) ≤ (c : Int) := by omega
    have a6 : (c : Int) ≤ 90 := by omega
    have e := k2.resolve_right (fun h => h h3.1)
    have e2 : IntKind.i64.wrap ((c : Int) - 65) = (c : Int) - 65 := IntWalk.i64_in _ (by omega)
    have e3 : IntKind.i64.wrap ((c : Int) - 65 + 10) = ((c - 65 + 10 : Nat) : Int) := by rw [IntWalk.i64_in _ (by omega)]; omega
    clear h1 h2 h3 k0 k1 k2 hc
    go_enter Tryz.func335, Tryz.ntmps335
    go_wp2
    go_ret
    exact ⟨by first | rfl | (rw [e3]), rfl⟩
   ·rw [if_neg h3]
    clear k0 k1 k2
    have hcc : ((48 : Int) ≤ (c : Int) ∧ ¬ (c : Int) ≤ 57) ∨ ¬ (48 : Int) ≤ (c : Int) := by omega
    have hcd : ((97 : Int) ≤ (c : Int) ∧ ¬ (c : Int) ≤ 122) ∨ ¬ (97 : Int) ≤ (c : Int) := by omega
    have hce : ((65 : Int) ≤ (c : Int) ∧ ¬ (c : Int) ≤ 90) ∨ ¬ (65 : Int) ≤ (c : Int) := by omega
    clear h1 h2 h3 hc
    rcases hcc with ⟨a1, a2⟩ | a1 <;> rcases hcd with ⟨a3, a4⟩ | a3 <;> rcases hce with ⟨a5, a6⟩ | a5
    all_goals
     go_enter Tryz.func335, Tryz.ntmps335
     go_wp2
     go_ret
     exact ⟨rfl, rfl⟩
def dgz (c : Nat) : Nat := if 48 ≤ c ∧ c ≤ 57 then c - 48 else if 97 ≤ c ∧ c ≤ 122 then c - 97 + 10 else if 65 ≤ c ∧ c ≤ 90 then c - 65 + 10 else 99
theorem Wp {c r : Nat} (hr : r ≤ 36) : dgz c < r ↔ dgt c < r := by unfold dgz dgt; split <;> (try split) <;> (try split) <;> omega
theorem Gu {c r : Nat} (hr : r ≤ 36) (h : dgt c < r) : dgz c = dgt c := by unfold dgz; unfold dgt at h ⊢; split <;> (try split) <;> (try split) <;> simp_all <;> omega
theorem Cd (c : Nat) (w : World) (hc : c < 256) :
  Cq 201 #[.int .u8 c] (.int .i64 (dgz c : Nat)) w := by
 have k0 : IntKind.u8.wrap ((c : Int) - 48) = (c : Int) - 48 ∨ ¬ (48 ≤ c) := by
  by_cases h : 48 ≤ c
  ·exact .inl (by rw [IntKind.wrap_u8]; omega)
  ·exact .inr h
 have k1 : IntKind.u8.wrap ((c : Int) - 97) = (c : Int) - 97 ∨ ¬ (97 ≤ c) := by
  by_cases h : 97 ≤ c
  ·exact .inl (by rw [IntKind.wrap_u8]; omega)
  ·exact .inr h
 have k2 : IntKind.u8.wrap ((c : Int) - 65) = (c : Int) - 65 ∨ ¬ (65 ≤ c) := by
  by_cases h : 65 ≤ c
  ·exact .inl (by rw [IntKind.wrap_u8]; omega)
  ·exact .inr h
 unfold dgz
 by_cases h1 : 48 ≤ c ∧ c ≤ 57
 ·rw [if_pos h1]
  have a1 : (48 : Int) ≤ (c : Int) := by omega
  have a2 : (c : Int) ≤ 57 := by omega
  have e := k0.resolve_right (fun h => h h1.1)
  have e2 : IntKind.i64.wrap ((c : Int) - 48) = ((c - 48 : Nat) : Int) := by rw [IntWalk.i64_in _ (by omega)]; omega
  clear h1 k0 k1 k2 hc
  go_enter Tryz.func201, Tryz.ntmps201
  go_wp2
  go_ret
  exact ⟨by first | rfl | (rw [e2]), rfl⟩
 ·rw [if_neg h1]
  by_cases h2 : 97 ≤ c ∧ c ≤ 122
  ·rw [if_pos h2]
   have a1 : (48 : Int) ≤ (c : Int) := by omega
   have a2 : ¬ (c : Int) ≤ 57 := by omega
   have a3 : (97 : Int) ≤ (c : Int) := by omega
   have a4 : (c : Int) ≤ 122 := by omega
   have e := k1.resolve_right (fun h => h h2.1)
   have e2 : IntKind.i64.wrap ((c : Int) - 97) = (c : Int) - 97 := IntWalk.i64_in _ (by omega)
   have e3 : IntKind.i64.wrap ((c : Int) - 97 + 10) = ((c - 97 + 10 : Nat) : Int) := by rw [IntWalk.i64_in _ (by omega)]; omega
   clear h1 h2 k0 k1 k2 hc
   go_enter Tryz.func201, Tryz.ntmps201
   go_wp2
   go_ret
   exact ⟨by first | rfl | (rw [e3]), rfl⟩
  ·rw [if_neg h2]
   by_cases h3 : 65 ≤ c ∧ c ≤ 90
   ·rw [if_pos h3]
    have a1 : (48 : Int) ≤ (c : Int) := by omega
    have a2 : ¬ (c : Int) ≤ 57 := by omega
    have a3 : ¬ (97 : Int) ≤ (c : Int) := by omega
    have a5 : (65 : Int) ≤ (c : Int) := by omega
    have a6 : (c : Int) ≤ 90 := by omega
    have e := k2.resolve_right (fun h => h h3.1)
    have e2 : IntKind.i64.wrap ((c : Int) - 65) = (c : Int) - 65 := IntWalk.i64_in _ (by omega)
    have e3 : IntKind.i64.wrap ((c : Int) - 65 + 10) = ((c - 65 + 10 : Nat) : Int) := by rw [IntWalk.i64_in _ (by omega)]; omega
    clear h1 h2 h3 k0 k1 k2 hc
    go_enter Tryz.func201, Tryz.ntmps201
    go_wp2
    go_ret
    exact ⟨by first | rfl | (rw [e3]), rfl⟩
   ·rw [if_neg h3]
    clear k0 k1 k2
    have hcc : ((48 : Int) ≤ (c : Int) ∧ ¬ (c : Int) ≤ 57) ∨ ¬ (48 : Int) ≤ (c : Int) := by omega
    have hcd : ((97 : Int) ≤ (c : Int) ∧ ¬ (c : Int) ≤ 122) ∨ ¬ (97 : Int) ≤ (c : Int) := by omega
    have hce : ((65 : Int) ≤ (c : Int) ∧ ¬ (c : Int) ≤ 90) ∨ ¬ (65 : Int) ≤ (c : Int) := by omega
    clear h1 h2 h3 hc
    rcases hcc with ⟨a1, a2⟩ | a1 <;> rcases hcd with ⟨a3, a4⟩ | a3 <;> rcases hce with ⟨a5, a6⟩ | a5
    all_goals
     go_enter Tryz.func201, Tryz.ntmps201
     go_wp2
     go_ret
     exact ⟨rfl, rfl⟩
theorem Acm (r : Nat) (w : World) (h2 : 2 ≤ r) (h36 : r ≤ 36) :
  Cp 298 #[.int .i64 r] w fun e w' => (∃ c p : Nat, e = .returned (.tuple #[.int .i64 (c : Nat), .int .u32 (p : Nat)]) ∧ p = r ^ c ∧ 1 ≤ c ∧ c ≤ 32 ∧ p < 4294967296) ∧ w = w' := by
 have k0 : IntKind.u64.wrap (r : Int) = (r : Int) := IntWalk.u64_in _ (by omega)
 have H2 := Lh h2
 have H36 := Lh h36
 clear h2 h36
 go_enter Tryz.func298, Tryz.ntmps298
 go_wp2
 go_loopw [4, 5] (fun cv pw wr => ∃ c p : Nat, cv = .int .i64 (c : Nat) ∧ pw = .int .u64 (p : Nat) ∧ Hid (p = r ^ c) ∧ Hid (1 ≤ c) ∧ Hid (p < 4294967296) ∧ w = wr) (fun _ pw _ => 4294967296 - (intOf pw).toNat)
 case atStart => exact ⟨1, r, rfl, rfl, Lh (by rw [Nat.pow_one]), Lh (Nat.le_refl _), Lh (by have := H36.out; omega), rfl⟩
 case round =>
  obtain ⟨c, p, rfl, rfl, HP, HC, HL, rfl⟩ := hrel
  have hc32 : c < 32 := by
   have h1 : 2 ^ c ≤ r ^ c := Nat.pow_le_pow_left H2.out c
   have h3 := HL.out
   rw [HP.out] at h3
   exact (Nat.pow_lt_pow_iff_right (a := 2) (by omega)).1 (Nat.lt_of_le_of_lt h1 (show r ^ c < 2 ^ 32 from h3))
  obtain ⟨t, ht⟩ : ∃ t, p * r = t := ⟨_, rfl⟩
  have htl : t ≤ 4294967295 * 36 := by rw [← ht]; exact Nat.mul_le_mul (by have := HL.out; omega) H36.out
  have k1 : IntKind.u64.wrap ((p : Int) * (r : Int)) = (t : Int) := by
   have e : ((p : Int) * (r : Int)) = ((p * r : Nat) : Int) := (Int.natCast_mul p r).symm
   rw [e, ht]
   exact IntWalk.u64_in _ (by omega)
  have HT := Lh ht
  by_cases hle : t ≤ 4294967295
  ·have a1 : (t : Int) ≤ 4294967295 := by omega
   have HPN := Lh (show t = r ^ (c + 1) by rw [← HT.out, HP.out, Nat.pow_succ])
   have HTP := Lh (show p < t by
    have h1 : p * 2 ≤ p * r := Nat.mul_le_mul_left _ H2.out
    have h3 : 0 < r ^ c := Nat.pow_pos (by have := H2.out; omega)
    have h4 := HP.out
    have h5 := HT.out
    omega)
   have hcc : (c : Int) < 32 := by omega
   clear ht htl hle
   go_wp2
   go_roundw
   case rel => exact ⟨c + 1, t, by go_num, rfl, HPN, Lh (by omega), Lh (by omega), trivial⟩
   case measure => have := HTP.out; simp [intOf]; omega
  ·have a1 : ¬ (t : Int) ≤ 4294967295 := by omega
   have k2 : IntKind.u32.wrap (p : Int) = (p : Int) := IntWalk.u32_in _ (by have := HL.out; omega)
   clear ht htl hle
   go_wp2
   go_ret2
   exact ⟨⟨c, p, rfl, HP.out, HC.out, by omega, HL.out⟩, rfl⟩

open Go.RowKit
def adB (r : Nat) (s : ByteArray) : Bool := decide (0 < s.size) && decide (∀ i, i < s.size → dgt (btn s i) < r)
theorem Aj1 {r : Nat} {s : ByteArray} {i : Nat} (hi : i < s.size) (h : ¬ dgt (btn s i) < r) : adB r s = false := by
 unfold adB
 rw [decide_eq_false (p := ∀ i, i < s.size → dgt (btn s i) < r) (fun a => h (a i hi)), Bool.and_false]
theorem Zu {r : Nat} {s : ByteArray} (h : ∀ i, i < s.size → dgt (btn s i) < r) : adB r s = decide (0 < s.size) := by
 unfold adB
 rw [decide_eq_true h, Bool.and_true]
theorem O2 (s : ByteArray) (r : Nat) (w : World) (hs : s.size ≤ 4611686018427387903) (h36 : r ≤ 36) :
  Cq 297 #[.string s, .int .i64 r] (.bool (adB r s)) w := by
 have hs1 : (s.size : Int) ≤ 4611686018427387903 := by omega
 have H36 := Lh h36
 clear hs h36
 go_enter Tryz.func297, Tryz.ntmps297
 go_wp2
 go_loopw [8] (fun iv wr => ∃ k : Nat, iv = .int .i64 (k : Nat) ∧ k ≤ s.size ∧ Hid (∀ i, i < k → dgt (btn s i) < r) ∧ w = wr) (fun iv _ => s.size - (intOf iv).toNat)
 case atStart => exact ⟨0, rfl, Nat.zero_le _, Lh (fun i hi => by omega), rfl⟩
 case round =>
  obtain ⟨k, rfl, hk, HD, rfl⟩ := hrel
  by_cases hlt : k < s.size
  ·have C1 := Lh (fun W => show Cp 335 #[.int .u8 ((s[k]'hlt).toNat : Nat)] W fun e w' => e = .returned (.int .i64 (dgt (btn s k) : Nat)) ∧ W = w' from by
    rw [Dd s k hlt]; exact Ol _ W (E7 s k))
   have hk1 : (k : Int) < (s.size : Int) := by omega
   have hd := N1 (btn s k)
   obtain ⟨d, hde⟩ : ∃ d, dgt (btn s k) = d := ⟨_, rfl⟩
   rw [hde] at C1 hd
   by_cases hdr : d < r
   ·have HD2 := Lh (show ∀ i, i < k + 1 → dgt (btn s i) < r from fun i hi => by
     by_cases e : i = k
     ·rw [e, hde]; exact hdr
     ·exact HD.out i (by omega))
    have a1 : ¬ (r : Int) ≤ (d : Int) := by omega
    clear hde hdr hd
    go_wp2_with fail
    refine Sm (C1.out _) ?_
    go_wp2
    go_roundw
    case rel => exact ⟨k + 1, by go_num, by omega, HD2, trivial⟩
    case measure => simp [intOf]; omega
   ·have HF := Lh (Aj1 (r := r) hlt (by rw [hde]; exact hdr))
    have a1 : (r : Int) ≤ (d : Int) := by omega
    clear hde hdr hd
    go_wp2_with fail
    refine Sm (C1.out _) ?_
    go_wp2
    go_ret
    exact ⟨Fs HF.out.symm, rfl⟩
  ·have HF := Lh (Zu (r := r) (s := s) (fun i hi => HD.out i (by omega)))
   have hks : k = s.size := by omega
   subst hks
   clear hlt
   go_wp2
   go_ret
   exact ⟨(Fs (by simp)).trans (Fs HF.out.symm), rfl⟩
theorem Aca (s : ByteArray) (r : Nat) (w : World) (h36 : r ≤ 36) (h2 : 2 ≤ r) (hp : r ^ s.size < 4294967296) (hd : ∀ i, i < s.size → dgt (btn s i) < r) :
  Cq 299 #[.string s, .int .i64 r] (.tuple #[.int .u32 (pv r (fun i => dgt (btn s i)) s.size : Nat), .int .u32 (r ^ s.size : Nat)]) w := by
 have hs32 : s.size < 32 := by
  have h1 : 2 ^ s.size ≤ r ^ s.size := Nat.pow_le_pow_left h2 _
  exact (Nat.pow_lt_pow_iff_right (a := 2) (by omega)).1 (Nat.lt_of_le_of_lt h1 (show r ^ s.size < 2 ^ 32 from hp))
 have hs1 : (s.size : Int) ≤ 32 := by omega
 have k0 : IntKind.u32.wrap (r : Int) = (r : Int) := IntWalk.u32_in _ (by omega)
 have H2 := Lh h2
 have HP := Lh hp
 have HD := Lh hd
 clear h36 h2 hp hd hs32
 go_enter Tryz.func299, Tryz.ntmps299
 go_wp2
 go_loopw [6, 7, 11] (fun vv pw iv wr => ∃ k : Nat, iv = .int .i64 (k : Nat) ∧ vv = .int .u32 (pv r (fun i => dgt (btn s i)) k : Nat) ∧ pw = .int .u32 (r ^ k : Nat) ∧ k ≤ s.size ∧ w = wr) (fun _ _ iv _ => s.size - (intOf iv).toNat)
 case atStart => exact ⟨0, rfl, rfl, rfl, Nat.zero_le _, rfl⟩
 case round =>
  obtain ⟨k, rfl, rfl, rfl, hk, rfl⟩ := hrel
  by_cases hlt : k < s.size
  ·have C1 := Lh (fun W => show Cp 335 #[.int .u8 ((s[k]'hlt).toNat : Nat)] W fun e w' => e = .returned (.int .i64 (dgt (btn s k) : Nat)) ∧ W = w' from by
    rw [Dd s k hlt]; exact Ol _ W (E7 s k))
   have hk1 : (k : Int) < (s.size : Int) := by omega
   have hle := N1 (btn s k)
   have hv1 : pv r (fun i => dgt (btn s i)) (k + 1) < r ^ (k + 1) := Z6 (fun i hi => HD.out i (by omega))
   have hp1 : r ^ (k + 1) < 4294967296 := Nat.lt_of_le_of_lt (Nat.pow_le_pow_right (by have := H2.out; omega) hlt) HP.out
   have ev : pv r (fun i => dgt (btn s i)) (k + 1) = pv r (fun i => dgt (btn s i)) k * r + dgt (btn s k) := rfl
   have ep : r ^ (k + 1) = r ^ k * r := Nat.pow_succ _ _
   obtain ⟨d, hde⟩ : ∃ d, dgt (btn s k) = d := ⟨_, rfl⟩
   rw [hde] at C1 hle ev
   obtain ⟨V, hV⟩ : ∃ V, pv r (fun i => dgt (btn s i)) k = V := ⟨_, rfl⟩
   obtain ⟨V1, hV1⟩ : ∃ V1, pv r (fun i => dgt (btn s i)) (k + 1) = V1 := ⟨_, rfl⟩
   obtain ⟨P, hP⟩ : ∃ P, r ^ k = P := ⟨_, rfl⟩
   obtain ⟨P1, hP1⟩ : ∃ P1, r ^ (k + 1) = P1 := ⟨_, rfl⟩
   have HV1 := Lh hV1
   have HP1 := Lh hP1
   rw [hV, hV1] at ev
   rw [hP1, hP] at ep
   rw [hV1, hP1] at hv1
   rw [hP1] at hp1
   rw [hV, hP]
   obtain ⟨t, ht⟩ : ∃ t, V * r = t := ⟨_, rfl⟩
   rw [ht] at ev
   have k1 : IntKind.u32.wrap ((V : Int) * (r : Int)) = (t : Int) := by
    rw [show ((V : Int) * (r : Int)) = ((V * r : Nat) : Int) from (Int.natCast_mul V r).symm, ht]; exact IntWalk.u32_in _ (by omega)
   have k2 : IntKind.u32.wrap (d : Int) = (d : Int) := IntWalk.u32_in _ (by omega)
   have k3 : IntKind.u32.wrap ((t : Int) + (d : Int)) = (V1 : Int) := by rw [IntWalk.u32_in _ (by omega)]; omega
   have k4 : IntKind.u32.wrap ((P : Int) * (r : Int)) = (P1 : Int) := by
    rw [show ((P : Int) * (r : Int)) = ((P * r : Nat) : Int) from (Int.natCast_mul P r).symm, ← ep]; exact IntWalk.u32_in _ (by omega)
   clear hle hv1 hp1 ev ep hde hV hV1 hP hP1 ht
   go_wp2_with fail
   refine Sm (C1.out _) ?_
   go_wp2
   go_roundw
   case rel => exact ⟨k + 1, by go_num, by rw [HV1.out], by rw [HP1.out], by omega, trivial⟩
   case measure => simp [intOf]; omega
  ·have hks : k = s.size := by omega
   rw [hks]
   clear hlt hk hks
   go_wp2
   go_ret2
   exact ⟨rfl, rfl⟩

open Go.RowKit
def sgn (a b : Int) : Int := if a < b then -1 else if b < a then 1 else 0
def ord (l m : List Nat) : Int := sgn (val l) (val m)
theorem W5 {l m : List Nat} (h : val l < val m) : ord l m = -1 := by unfold ord sgn; rw [if_pos (by omega)]
theorem Xe {l m : List Nat} (h : val m < val l) : ord l m = 1 := by unfold ord sgn; rw [if_neg (by omega), if_pos (by omega)]
theorem Ye {l m : List Nat} (h : val l = val m) : ord l m = 0 := by unfold ord sgn; rw [if_neg (by omega), if_neg (by omega)]
theorem Afi (A C : Option Addr) (n c m d : Nat) (l k : List Nat) (B D : Nat) (w : World) (hn : l.length = n) (hm : n ≤ 35184372088832) (h : RW w B A l)
  (gn : k.length = m) (gm : m ≤ 35184372088832) (g : RW w D C k) :
  Cq 346 #[.slice A n c, .slice C m d] (.int .i64 (ord l k)) w := by
 have c1 := fun i => Aj A n c i l B w hn hm h
 have c2 := fun i => Aj C m d i k D w gn gm g
 have body : ∀ N : Nat, (n : Int) ≤ N → (m : Int) ≤ N → (N : Int) ≤ 35184372088832 → (((n : Int) < (m : Int) ∧ N = m) ∨ (¬ (n : Int) < (m : Int) ∧ N = n)) →
   Cq 346 #[.slice A n c, .slice C m d] (.int .i64 (ord l k)) w := by
  intro N h1 h2 h3 h4
  have HS := Lh (show ∀ j, N ≤ j → l.getD j 0 = k.getD j 0 from fun j hj => by rw [Id (by omega), Id (by omega)])
  have HL := Lh h.1
  have HK := Lh g.1
  have C1 := Lh c1
  have C2 := Lh c2
  clear hn hm h gn gm g c1 c2 h1 h2
  rcases h4 with ⟨h4, rfl⟩ | ⟨h4, rfl⟩
  all_goals
   go_enter Tryz.func346, Tryz.ntmps346
   go_wp2
   go_loop [6] (fun i => ∃ q : Nat, i = .int .i64 ((q : Int) - 1) ∧ (q : Int) ≤ 35184372088832 ∧ Hid (∀ j, q ≤ j → l.getD j 0 = k.getD j 0)) (fun i => (intOf i + 1).toNat)
   case atStart => exact ⟨_, rfl, h3, HS⟩
   case round =>
    obtain ⟨q, rfl, hq, HQ⟩ := hrel
    by_cases h0 : q = 0
    ·have HE := Lh (show ord l k = 0 from Ye (Nz (fun j => HQ.out j (by omega))))
     subst h0
     go_wp2
     go_ret
     exact ⟨J9 (by rw [HE.out]), rfl⟩
    ·obtain ⟨i, rfl⟩ : ∃ i, q = i + 1 := ⟨q - 1, by omega⟩
     have d1 := C1.out i
     have d2 := C2.out i
     by_cases hne : l.getD i 0 = k.getD i 0
     ·obtain ⟨u, hu⟩ : ∃ u, l.getD i 0 = u := ⟨_, rfl⟩
      rw [← hne] at d2
      rw [hu] at d1 d2
      have HQ2 := Lh (show ∀ j, i ≤ j → l.getD j 0 = k.getD j 0 from fun j hj => by
       by_cases e : j = i
       ·rw [e]; exact hne
       ·exact HQ.out j (by omega))
      clear hu hne
      go_wp2_with fail
      refine d1.mono ?_
      rintro e w' ⟨rfl, rfl⟩
      go_wp2_with fail
      refine d2.mono ?_
      rintro e w' ⟨rfl, rfl⟩
      go_wp2_with fail
      refine d1.mono ?_
      rintro e w' ⟨rfl, rfl⟩
      go_wp2_with fail
      refine d2.mono ?_
      rintro e w' ⟨rfl, rfl⟩
      go_wp2
      go_round
      case rel => exact ⟨i, by go_num, by omega, HQ2⟩
      case measure => simp [intOf]
     ·rcases Nat.lt_or_gt_of_ne hne with hlt | hlt
      ·have HE := Lh (W5 (Xz i l k HL.out HK.out (fun j hj => HQ.out j (by omega)) hlt))
       obtain ⟨u, hu⟩ : ∃ u, l.getD i 0 = u := ⟨_, rfl⟩
       obtain ⟨v, hv⟩ : ∃ v, k.getD i 0 = v := ⟨_, rfl⟩
       rw [hu] at d1 hlt
       rw [hv] at d2 hlt
       have hl1 : (u : Int) < (v : Int) := by omega
       clear hu hv hne hlt
       go_wp2_with fail
       refine d1.mono ?_
       rintro e w' ⟨rfl, rfl⟩
       go_wp2_with fail
       refine d2.mono ?_
       rintro e w' ⟨rfl, rfl⟩
       go_wp2
       go_ret
       exact ⟨J9 (by rw [HE.out]), rfl⟩
      ·have HE := Lh (Xe (Xz i k l HK.out HL.out (fun j hj => (HQ.out j (by omega)).symm) hlt))
       obtain ⟨u, hu⟩ : ∃ u, l.getD i 0 = u := ⟨_, rfl⟩
       obtain ⟨v, hv⟩ : ∃ v, k.getD i 0 = v := ⟨_, rfl⟩
       rw [hu] at d1 hlt
       rw [hv] at d2 hlt
       have HL1 := Lh (show (v : Int) < (u : Int) by omega)
       have hl2 : decide (u < v) = false := by simp; omega
       clear hu hv hne hlt
       go_wp2_with fail
       refine d1.mono ?_
       rintro e w' ⟨rfl, rfl⟩
       go_wp2_with fail
       refine d2.mono ?_
       rintro e w' ⟨rfl, rfl⟩
       go_wp2_with fail
       have hl1 := HL1.out
       clear hl2
       refine d1.mono ?_
       rintro e w' ⟨rfl, rfl⟩
       go_wp2_with fail
       refine d2.mono ?_
       rintro e w' ⟨rfl, rfl⟩
       go_wp2
       go_ret
       exact ⟨J9 (by rw [HE.out]), rfl⟩
 rcases Nat.lt_or_ge n m with h4 | h4
 ·exact body m (by omega) (by omega) (by omega) (.inl ⟨by omega, rfl⟩)
 ·exact body n (by omega) (by omega) (by omega) (.inr ⟨by omega, rfl⟩)

open Go.RowKit
structure MulU (a b : List Nat) (i : Nat) (P : List Nat) : Prop where
 len : P.length = a.length + b.length + 1
 ws : Ws P
 zeros : ∀ j, i + b.length ≤ j → P.getD j 0 = 0
 sum : val (P.take (i + b.length)) = val (a.take i) * val b
theorem MulU.start (a b : List Nat) : MulU a b 0 (List.replicate (a.length + b.length + 1) 0) :=
 ⟨List.length_replicate, Ws.zeros _, fun j _ => Nd _ j, by rw [List.take_replicate, Gi]; simp [val]⟩
theorem MulU.next {a b : List Nat} {i : Nat} {P S : List Nat} {q : Nat} (h : MulU a b i P) (hi : i < a.length) (hS : AddT P i b (a.getD i 0) b.length S q) : MulU a b (i + 1) (S.set (i + b.length) q) := by
 obtain ⟨h1, h2, h3, h4⟩ := h
 obtain ⟨g1, g2, g3, g4, g5⟩ := hS
 refine ⟨by rw [List.length_set]; omega, g2.set g5, fun j hj => ?_, ?_⟩
 ·rw [Ao (by omega), g3 j (by omega), h3 j (by omega)]
 ·have hb : b.take b.length = b := List.take_of_length_le (Nat.le_refl _)
  rw [hb] at g4
  have e1 : (S.set (i + b.length) q).take (i + 1 + b.length) = (S.set (i + b.length) q).take (i + b.length + 1) := by congr 1; omega
  rw [e1, Bg _ _ (by rw [List.length_set]; omega), Bp (by omega), Bg a i hi]
  rw [Co (l := S.set (i + b.length) q) (m := S) (i + b.length) (by rw [List.length_set]; omega) (by omega) (fun j hj => Ao (by omega))]
  rw [Fq S i b.length (by omega)]
  rw [Co (l := S) (m := P) i (by omega) (by omega) (fun j hj => g3 j (by omega))]
  rw [Fq P i b.length (by omega)] at h4
  rw [Nat.pow_add]
  have e2 : val (P.take i) + 4294967296 ^ i * val ((S.drop i).take b.length) + 4294967296 ^ i * 4294967296 ^ b.length * q = val (P.take i) + 4294967296 ^ i * (val ((S.drop i).take b.length) + 4294967296 ^ b.length * q) := by grind
  rw [e2, g4]
  grind
theorem MulU.whole {a b : List Nat} {P : List Nat} (h : MulU a b a.length P) : val P = val a * val b := by
 rw [M1 P (a.length + b.length) (fun j hj => h.zeros j hj), h.sum, List.take_of_length_le (Nat.le_refl _)]
theorem Pd (A C : Option Addr) (n c m d : Nat) (l k : List Nat) (w : World) (hn : l.length = n) (hm : n ≤ 4096) (h : RW w w.heap.size A l)
  (gn : k.length = m) (gm : m ≤ 4096) (g : RW w w.heap.size C k) :
  Cp 265 #[.slice A n c, .slice C m d] w (SlPost (wds (val l * val k)) w) := by
 have hmk := run_make_row' (P := Tryz.prog) 180 156 (.int .u32 0) 4 Tryz.underlying180 Ei rfl .i64 .i64 (n + m + 1) (by omega) (by omega) w
 rw [show ((n + m + 1 : Nat) : Int) = (n : Int) + (m : Int) + 1 by omega] at hmk
 have HROW := Lh (Row.made w (n + m + 1))
 have hn1 : (n : Int) ≤ 4096 := by omega
 have hm1 : (m : Int) ≤ 4096 := by omega
 have HN := Lh hn
 have HM := Lh gn
 have HA := Lh h
 have HB := Lh g
 have HBL := Lh (show Below w.heap.size w (w.alloc (.cells (madeCells #[.int .u32 0] (n + m + 1)) 156)) from (Below.refl _ _).alloc (Nat.le_refl _) _)
 clear h g hn hm gn gm
 go_enter Tryz.func265, Tryz.ntmps265
 go_wp2
 clear hmk
 go_loopw [6] (fun i wr => ∃ (q : Nat) (P : List Nat), i = .int .i64 q ∧ q ≤ n ∧ Hid (Row wr w.heap.size P) ∧ Hid (MulU l k q P) ∧ Below w.heap.size w wr) (fun i _ => n - (intOf i).toNat)
 case atStart => exact ⟨0, _, rfl, Nat.zero_le _, HROW, Lh (by have := MulU.start l k; rw [HN.out, HM.out] at this; exact this), HBL.out⟩
 case round =>
  obtain ⟨q, P, rfl, hq, HR, HT, hbw⟩ := hrel
  by_cases hlt : q < n
  ·have hql : q < l.length := by rw [HN.out]; exact hlt
   obtain ⟨ab, ao, rfl, hab, hca⟩ := HA.out.2 (by omega)
   have hx := HA.out.1.getD q
   have hca2 := hca q _ (getD_some hql)
   obtain ⟨x, hxe⟩ : ∃ x, l.getD q 0 = x := ⟨_, rfl⟩
   rw [hxe] at hca2 hx
   have HCA := Lh (fun (W : World) (hB : Below w.heap.size w W) => show W.cell? ⟨ab, ao + q, none⟩ = some (.int .u32 (x : Int)) from by rw [hB.cell (p := ⟨ab, ao + q, none⟩) hab]; exact hca2)
   have HX := Lh hx
   have hPl : P.length = n + m + 1 := by rw [HT.out.len, HN.out, HM.out]
   have HPL := Lh hPl
   have HNX := Lh (fun S r (h : AddT P q k x k.length S r) => HT.out.next hql (by rw [hxe]; exact h))
   have hq1 : (q : Int) < (n : Int) := by omega
   have hq0 : (0 : Int) ≤ (q : Int) := by omega
   have HST := Lh (AddT.start q k x HT.out.ws)
   obtain ⟨wo, rfl⟩ : ∃ wo : World, wo = wr := ⟨_, rfl⟩
   clear hql hab hca hx hca2 hxe hPl
   go_wp2
   go_loopw [7, 8] (fun cv kv wi => ∃ (r j : Nat) (S : List Nat), cv = .int .u64 (r : Nat) ∧ kv = .int .i64 j ∧ j ≤ m ∧ Hid (Row wi w.heap.size S) ∧ Hid (AddT P q k x j S r) ∧ Below w.heap.size w wi) (fun _ kv _ => m - (intOf kv).toNat)
   case atStart => exact ⟨0, 0, P, rfl, rfl, Nat.zero_le _, HR, HST, hbw⟩
   case round =>
    obtain ⟨r, j, S, rfl, rfl, hj, HS, HAd, hbi⟩ := hrel
    by_cases hjm : j < m
    ·have hjl : j < k.length := by rw [HM.out]; exact hjm
     obtain ⟨bb, bo, rfl, hbb, hcb⟩ := HB.out.2 (by omega)
     have hcb2 := hcb j _ (getD_some hjl)
     rw [← hbi.cell (p := ⟨bb, bo + j, none⟩) hbb] at hcb2
     have hca2 := HCA.out wr hbi
     have hok : q + j < P.length := by rw [HPL.out]; omega
     obtain ⟨e1, hnext⟩ := HAd.out.next HT.out.ws HB.out.1 HX.out hjl hok
     have hS := HS.out.cell (q + j) (by rw [HAd.out.len]; exact hok)
     have hfz := HS.out.frozen (q + j)
     obtain ⟨l1, l2, l3⟩ := Mq (o := q) (k := j) (q := r) HT.out.ws HB.out.1 HX.out HAd.out.low
     have hset := HS.out.set (q + j) (Iu P q k x j r % 4294967296)
     have HE := Lh (show Iu P q k x j r = r + (k.getD j 0 * x + P.getD (q + j) 0) from rfl)
     have u1 := HB.out.1.getD j
     have r1 := HT.out.ws.getD (q + j)
     have q1 := HAd.out.low
     rw [e1] at hS
     obtain ⟨t, ht⟩ : ∃ t, Iu P q k x j r = t := ⟨_, rfl⟩
     obtain ⟨u, hu⟩ : ∃ u, k.getD j 0 = u := ⟨_, rfl⟩
     obtain ⟨p, hp⟩ : ∃ p, P.getD (q + j) 0 = p := ⟨_, rfl⟩
     rw [ht, hu, hp] at HE
     rw [ht] at hnext hset l3
     rw [hu] at hcb2 l1 l2 u1
     rw [hp] at hS l2 r1
     have HNXT := Lh hnext
     have hmul : ((u * x : Nat) : Int) = (x : Int) * (u : Int) := by rw [Nat.mul_comm]; exact Int.natCast_mul x u
     have k1 : IntKind.u64.wrap (u : Int) = (u : Int) := IntWalk.u64_in _ (by omega)
     have k2 : IntKind.u64.wrap (x : Int) = (x : Int) := IntWalk.u64_in _ (by have := HX.out; omega)
     have k3 : IntKind.u64.wrap (p : Int) = (p : Int) := IntWalk.u64_in _ (by omega)
     have k4 : IntKind.u64.wrap ((x : Int) * (u : Int)) = (x : Int) * (u : Int) := IntWalk.u64_in _ (by omega)
     have k5 : IntKind.u64.wrap ((x : Int) * (u : Int) + (p : Int)) = (x : Int) * (u : Int) + (p : Int) := IntWalk.u64_in _ (by omega)
     have k6 : IntKind.u64.wrap ((x : Int) * (u : Int) + (p : Int) + (r : Int)) = (t : Int) := by
      have := HE.out
      rw [IntWalk.u64_in _ (by omega)]
      omega
     have k7 : IntKind.i64.wrap ((q : Int) + (j : Int)) = (q : Int) + (j : Int) := IntWalk.i64_in _ (by omega)
     have k8 : ((q : Int) + (j : Int)).toNat = q + j := by omega
     have k9 : (0 : Int) ≤ (q : Int) + (j : Int) := by omega
     have k10 : (q : Int) + (j : Int) < (n : Int) + (m : Int) + 1 := by omega
     have j0 : (0 : Int) ≤ (j : Int) := by omega
     have j1 : (j : Int) < (m : Int) := by omega
     rw [show ((t % 4294967296 : Nat) : Int) = (t : Int) % 4294967296 by omega] at hset
     have HSET := Lh hset
     clear hset e1 hnext l1 l2 l3 u1 r1 q1 ht hu hp hjl hok hbb hcb hmul
     go_wp2
     go_quiet (fail)
     go_wp2
     go_roundw
     case rel => exact ⟨t / 4294967296, j + 1, _, by go_num, by go_num, by omega, Lh (show Row _ _ _ from HSET.out), HNXT, by first | exact Ac (hbi.setCell (Nat.le_refl _) _) _ | exact (Ac hbi _).setCell (Nat.le_refl _) _⟩
     case measure => simp [intOf]; omega
    ·have hjm2 : j = m := by omega
     have HAd2 := Lh (show AddT P q k x k.length S r by rw [HM.out, ← hjm2]; exact HAd.out)
     have hSl : S.length = n + m + 1 := by rw [HAd.out.len]; exact HPL.out
     have hr1 := HAd.out.low
     have k1 : IntKind.u32.wrap (r : Int) = (r : Int) := IntWalk.u32_in _ (by omega)
     have hS := HS.out.cell (q + m) (by omega)
     have hfz := HS.out.frozen (q + m)
     have HSET := Lh (HS.out.set (q + m) r)
     have HMT := Lh (show MulU l k (q + 1) (S.set (q + m) r) by have := HNX.out S r HAd2.out; rw [HM.out] at this; exact this)
     have j1 : ¬ (j : Int) < (m : Int) := by omega
     have j2 : (q : Int) + (m : Int) < (n : Int) + (m : Int) + 1 := by omega
     clear hjm2 hSl hr1
     go_wp2
     go_roundw
     case rel => exact ⟨q + 1, _, by go_num, by omega, HSET, HMT, hbi.setCell (Nat.le_refl _) _⟩
     case measure => simp [intOf]; omega
  ·have hqn : q = n := by omega
   have HMT := Lh (show MulU l k l.length P by rw [HN.out, ← hqn]; exact HT.out)
   have hPl : P.length = n + m + 1 := by rw [HT.out.len, HN.out, HM.out]
   have hlt2 := HR.out.lt
   have C1 := Lh (Bs (some ⟨w.heap.size, 0, none⟩) (n + m + 1) (n + m + 1) P wr.heap.size wr hPl (Nat.le_refl _) (by omega) ((HR.out.rw0 HT.out.ws).more hlt2))
   have HV := Lh (show nrm P = wds (val l * val k) by rw [Be HT.out.ws, HMT.out.whole])
   have hq1 : ¬ (q : Int) < (n : Int) := by omega
   clear hPl hqn hlt2
   go_wp2_with fail
   refine C1.out.mono ?_
   rintro e w3 ⟨v3, rfl, ho3, hb3⟩
   rw [HV.out] at ho3
   have HO3 := Lh (ho3.sl (Az _))
   clear ho3 C1
   go_wp2
   go_ret
   exact ⟨_, rfl, HO3.out, Aa hbw hb3⟩

open Go.RowKit
theorem Aik (x y P Q : Nat) (hxy : x * P % 4294967296 < 4294967296) (hq : y / Q < 4294967296) : bits BinOp.or IntKind.u32 ((x : Int) * (P : Nat) % 4294967296) ((y : Int) / (Q : Nat)) = ((x * P % 4294967296 ||| y / Q : Nat) : Int) := by
 rw [← Qu _ _ hxy hq]; rfl
theorem Ai1 (x y s : Nat) (hs : s < 32) (hy : y < 4294967296) : bits BinOp.or IntKind.u32 ((x : Int) * 2 ^ s % 4294967296) ((y : Int) / 2 ^ (32 - s)) = ((x * 2 ^ s % 4294967296 + y / 2 ^ (32 - s) : Nat) : Int) := by
 rw [← Ady x y s (by omega) hy, ← Aik x y _ _ (Nat.mod_lt _ (by omega)) (Nat.lt_of_le_of_lt (Nat.div_le_self _ _) hy), Int.natCast_pow, Int.natCast_pow]
 rfl
theorem or_zero (x s : Nat) : bits BinOp.or IntKind.u32 ((x : Int) * 2 ^ s % 4294967296) 0 = ((x * 2 ^ s % 4294967296 + 0 : Nat) : Int) := by
 have h : x * 2 ^ s % 4294967296 < 4294967296 := Nat.mod_lt _ (by omega)
 have e : ((x : Int) * 2 ^ s % 4294967296) = ((x * 2 ^ s % 4294967296 : Nat) : Int) := by rw [Int.natCast_emod, Int.natCast_mul, Int.natCast_pow]; rfl
 rw [e, show (0 : Int) = ((0 : Nat) : Int) from rfl, Qu _ _ h (by omega), Nat.or_zero, Nat.add_zero]
theorem Si (g o n c s : Nat) (R : List Nat) (A : Option Addr) (m d : Nat) (b : List Nat) (B : Nat) (w : World) (hR : Row w g R) (hRw : Ws R) (ho : o + n ≤ R.length) (hbl : b.length = m) (hm : m ≤ 4096) (hn : n ≤ 4096)
  (hB : RW w B A b) (hgB : B ≤ g) (hs : s < 32) :
  Cp 366 #[.slice (some ⟨g, o, none⟩) n c, .slice A m d, .int .i64 s] w (fun e w' => e = .returned (.tuple #[]) ∧ ∃ S, ShlP R o b s n S ∧ Row w' g S ∧ Below g w w') := by
 have hn1 : (n : Int) ≤ 4096 := by omega
 have hs1 : (s : Int) < 32 := by omega
 have hs0 : (0 : Int) ≤ (s : Int) := by omega
 have hB2 := Lh hB
 have HR := Lh hR
 have HSTART := Lh (ShlP.start o b s hRw)
 clear hR
 go_enter Tryz.func366, Tryz.ntmps366
 go_wp2
 go_loopw [9] (fun i wr => ∃ (k : Nat) (S : List Nat), i = .int .i64 k ∧ k ≤ n ∧ Hid (Row wr g S) ∧ Hid (ShlP R o b s k S) ∧ Below g w wr) (fun i _ => n - (intOf i).toNat)
 case atStart => exact ⟨0, R, rfl, Nat.zero_le _, HR, HSTART, Below.refl _ _⟩
 case round =>
  obtain ⟨k, S, rfl, hk, HRS, HS, hbw⟩ := hrel
  by_cases hlt : k < n
  ·have hS := HRS.out.cell (o + k) (by have := HS.out.len; omega)
   have hfz := HRS.out.frozen (o + k)
   have HNX := Lh (HS.out.next hB2.out.1 (by omega) (by have := HS.out.len; omega))
   have HROW := Lh (HRS.out.set (o + k) (Iy b s k))
   have C1 := Lh (fun W (hW : Below g w W) => Ez A m d k b B W hbl (by omega) (hB2.out.below (hW.mono hgB)))
   have hbd := Ac hbw 1
   have HBS := Lh (show Below g w (wr.setCell ⟨g, o + k, none⟩ (.int .u32 (Iy b s k : Nat))) from hbw.setCell (Nat.le_refl _) _)
   obtain ⟨x, hx⟩ : ∃ x, b.getD k 0 = x := ⟨_, rfl⟩
   rw [hx] at C1
   have hkk : (k : Int) < (n : Int) := by omega
   have e2 : IntKind.i64.wrap (32 - (s : Int)) = 32 - (s : Int) := IntWalk.i64_in _ (by omega)
   have e3 : (0 : Int) ≤ 32 - (s : Int) := by omega
   rcases Nat.eq_zero_or_pos k with hk0 | hk0
   ·subst hk0
    have C2 := Lh (fun W => Ago A m d W)
    have HW := Lh (show ((Iy b s 0 : Nat) : Int) = bits BinOp.or IntKind.u32 ((x : Int) * 2 ^ s % 4294967296) 0 by
     rw [or_zero]; unfold Iy Er; rw [hx, if_pos rfl])
    have e1 : IntKind.i64.wrap (-1) = -1 := rfl
    rw [show ((0 : Nat) : Int) = 0 from rfl] at C1
    rw [Nat.add_zero] at hS hfz HROW HNX HBS
    clear hx hB ho hbl
    go_wp2
    go_region_with (first
       | (go_at_call 329; (with_reducible refine (C2.out _).mono ?_); rintro e w' ⟨rfl, rfl⟩)
       | (go_at_call 329; (with_reducible refine (C1.out _ ?_).mono ?_); exact hbd; rintro e w' ⟨rfl, rfl⟩))
    all_goals
     go_wp2_with fail
     rw [← HW.out]
     exact ⟨⟨0 + 1, _, rfl, hlt, HROW, HNX, Ac HBS.out 1⟩, by simp [intOf]; omega⟩
   ·obtain ⟨j, rfl⟩ : ∃ j, k = j + 1 := ⟨k - 1, by omega⟩
    have C2 := Lh (fun W (hW : Below g w W) => Ez A m d j b B W hbl (by omega) (hB2.out.below (hW.mono hgB)))
    obtain ⟨y, hy⟩ : ∃ y, b.getD j 0 = y := ⟨_, rfl⟩
    rw [hy] at C2
    have HW := Lh (show ((Iy b s (j + 1) : Nat) : Int) = bits BinOp.or IntKind.u32 ((x : Int) * 2 ^ s % 4294967296) ((y : Int) / 2 ^ (32 - s)) by
     rw [Ai1 x y s hs (by rw [← hy]; exact hB2.out.1.getD j)]
     unfold Iy Er; rw [hx, if_neg (by omega), Nat.add_sub_cancel, hy])
    rw [show ((j + 1 : Nat) : Int) = (j : Int) + 1 by omega] at C1 hkk
    have e1 : IntKind.i64.wrap (j : Int) = (j : Int) := IntWalk.i64_in _ (by omega)
    clear hx hy hB ho hbl hk0 hk
    go_wp2
    go_region_with (first
       | (go_at_call 329; (with_reducible refine (C1.out _ ?_).mono ?_); exact hbd; rintro e w' ⟨rfl, rfl⟩)
       | (go_at_call 329; (with_reducible refine (C2.out _ ?_).mono ?_); exact hbd; rintro e w' ⟨rfl, rfl⟩))
    all_goals
     go_wp2_with fail
     rw [← HW.out]
     exact ⟨⟨j + 1 + 1, _, rfl, hlt, HROW, HNX, Ac HBS.out 1⟩, by simp [intOf]; omega⟩
  ·have hkn : k = n := by omega
   subst hkn
   clear hlt hbl
   go_wp2
   go_end0
   exact ⟨rfl, S, HS.out, HRS.out, hbw⟩

open Go.RowKit
theorem P6 (hi lo y : Nat) (w : World) (h : hi < y) (hl : lo < 4294967296) (hy : y < 4294967296) :
  Cp 387 #[.int .u32 hi, .int .u32 lo, .int .u32 y] w fun e w' => e = .returned (.tuple #[.int .u32 (((hi * 4294967296 + lo) / y : Nat) : Int), .int .u32 (((hi * 4294967296 + lo) % y : Nat) : Int)]) ∧ ∃ j, w' = w.drewN j := by
 have k1 : IntKind.u64.wrap (hi : Int) = (hi : Int) := IntWalk.u64_in _ (by omega)
 have k2 : IntKind.u64.wrap (lo : Int) = (lo : Int) := IntWalk.u64_in _ (by omega)
 have k3 : IntKind.u64.wrap (y : Int) = (y : Int) := IntWalk.u64_in _ (by omega)
 obtain ⟨U, hU⟩ : ∃ U, hi * 4294967296 = U := ⟨_, rfl⟩
 have k4 : IntKind.u64.wrap ((hi : Int) * 4294967296) = (U : Int) := by rw [IntWalk.u64_in _ (by omega)]; omega
 have hor := Vr hi lo hl
 rw [hU] at hor ⊢
 obtain ⟨t, ht⟩ : ∃ t, U + lo = t := ⟨_, rfl⟩
 rw [ht] at hor ⊢
 have k5 : bits BinOp.or IntKind.u64 (U : Int) (lo : Int) = (t : Int) := by rw [Gp U lo (by omega) (by omega), hor]
 have hq : t / y < 4294967296 := by rw [Nat.div_lt_iff_lt_mul (by omega)]; have : (hi + 1) * 4294967296 ≤ y * 4294967296 := Nat.mul_le_mul_right _ h; omega
 have hr : t % y < 4294967296 := Nat.lt_trans (Nat.mod_lt _ (by omega)) hy
 obtain ⟨q, hqe⟩ : ∃ q, t / y = q := ⟨_, rfl⟩
 obtain ⟨r, hre⟩ : ∃ r, t % y = r := ⟨_, rfl⟩
 have k6 : (t : Int) / (y : Int) = (q : Int) := by rw [← hqe]; exact (Int.natCast_ediv t y).symm
 have k7 : (t : Int) % (y : Int) = (r : Int) := by rw [← hre]; exact (Int.natCast_emod t y).symm
 rw [hqe] at hq ⊢
 rw [hre] at hr ⊢
 have k8 : IntKind.u32.wrap (q : Int) = (q : Int) := IntWalk.u32_in _ (by omega)
 have k10 : IntKind.u64.wrap (q : Int) = (q : Int) := IntWalk.u64_in _ (by omega)
 have k9 : IntKind.u32.wrap (r : Int) = (r : Int) := IntWalk.u32_in _ (by omega)
 have y0 : ((y : Int) == 0) = false := by simp; omega
 have y1 : (hi : Int) < (y : Int) := by omega
 have y2 : ¬ (y : Int) = 0 := by omega
 clear h hl hy hU hor ht hq hr hqe hre
 go_enter Tryz.func387, Tryz.ntmps387
 go_wp2
 go_quiet (fail)
 go_wp2
 go_ret2
 exact ⟨rfl, _, rfl⟩
theorem Afw (A : Option Addr) (n c : Nat) (l : List Nat) (w : World) (hn : l.length = n) (hc : n ≤ c) (hm : n ≤ 35184372088832) (h : RW w w.heap.size A l) :
  Cp 358 #[.slice A n c] w (fun e w' => e = .returned (.slice (some ⟨w.heap.size, 0, none⟩) (nrm l).length (nrm l).length) ∧ Row w' w.heap.size (nrm l) ∧ Below w.heap.size w w') := by
 have c1 := fun W (h : RW W w.heap.size A l) => Av A n c l w.heap.size W hn hc hm h
 obtain ⟨m, hm0⟩ : ∃ m, (nrm l).length = m := ⟨_, rfl⟩
 have hle : m ≤ n := by rw [← hm0, ← hn]; exact Aw l
 rw [hm0] at c1 ⊢
 have hmk := run_make_row' (P := Tryz.prog) 180 156 (.int .u32 0) 4 Tryz.underlying180 Ei rfl .i64 .i64 m (by omega) (by omega) w
 have hmade := World.rowIs_made w (.int .u32 0) m 156
 have HC := Lh (h.nrm)
 have HM := Lh hm0
 have hm1 : (m : Int) ≤ 35184372088832 := by omega
 have HR := Lh h
 have HX := Lh hmade
 clear h hn hc hm hm0 hle hmade
 go_enter Tryz.func358, Tryz.ntmps358
 go_wp2_with (first | (go_at_call 336; refine (c1 _ HR.out).mono ?_; rintro e w' ⟨rfl, rfl⟩) | (with_reducible refine wpList_copy_splice rfl (.tmp 9) (.tmp 10) 180 180 rfl 156 Tryz.underlying180 (by kernel_rfl) (some ⟨w.heap.size, 0, none⟩) A m m m m ?e1 ?e2 w.heap.size 0 (List.replicate m (.int .u32 0)) 156 ?k1 ((nrm l).map fun u => Value.int .u32 (u : Nat)) ?k2 ?k3 ?k4 ?k5 w.heap.size w ?k6 (Nat.le_refl _) ?_))
 case e1 => rfl
 case e2 => rfl
 case k1 =>
  have e := heap_alloc_new w (.cells (madeCells #[Value.int .u32 0] m) 156)
  rw [show madeCells #[Value.int .u32 0] m = (List.replicate m (Value.int .u32 0)).toArray from Array.toList_inj.1 (by rw [toList_madeCells_one, List.toList_toArray])] at e ⊢
  exact e
 case k2 => rw [List.length_map, HM.out]; exact (Nat.min_self _).symm
 case k3 =>
  intro hp
  have hp' : 0 < (nrm l).length := by simpa using hp
  obtain ⟨b, off, e, hb, hc⟩ := HC.out.2 hp'
  refine ⟨⟨b, off, none⟩, e, fun j u hu => ?_⟩
  rw [World.cell?_alloc_lt]
  ·exact Se hc j _ (by rw [List.getElem?_map, hu]; rfl)
  ·unfold Addr.add; split <;> exact hb
 case k4 => rw [List.length_map, HM.out, List.length_replicate]; omega
 case k5 => exact So _
 case k6 => exact (Below.refl _ _).alloc (Nat.le_refl _) _
 intro w2 HG2 hB2
 go_wp2
 go_ret
 refine ⟨rfl, ?_, hB2⟩
 have hG := HG2.out
 have e : splice (List.replicate m (Value.int .u32 0)) 0 ((nrm l).map fun u => Value.int .u32 (u : Nat)) = (nrm l).map fun u => Value.int .u32 (u : Nat) := by
  unfold splice
  rw [List.take_zero, List.nil_append, List.drop_of_length_le (by rw [List.length_replicate, List.length_map, HM.out]; omega), List.append_nil]
 rw [e] at hG
 exact hG
theorem Nq (g n c d : Nat) (a : List Nat) (w : World) (hR : Row w g a) (hw : Ws a) (hn : a.length = n) (hm : n ≤ 35184372088832) (hd : d < 4294967296) (hd0 : 0 < d) :
  Cp 367 #[.slice (some ⟨g, 0, none⟩) n c, .int .u32 d] w (fun e w' => e = .returned (.int .u32 ((val a % d : Nat) : Int)) ∧ ∃ S, Row w' g S ∧ S.length = n ∧ Ws S ∧ val S = val a / d ∧ Below g w w') := by
 have HR := Lh hR
 have HW := Lh hw
 have HN := Lh hn
 have hm1 : (n : Int) ≤ 35184372088832 := by omega
 have HD := Lh hd
 have HD0 := Lh hd0
 have HST := Lh (show WordT a d n a 0 from hn ▸ WordT.start hw hd0)
 clear hR hw hn hm hd hd0
 go_enter Tryz.func367, Tryz.ntmps367
 go_wp2
 go_loopw [5, 6] (fun v i wr => ∃ (k : Nat) (S : List Nat) (r : Nat), i = .int .i64 ((k : Int) - 1) ∧ v = .int .u32 (r : Nat) ∧ k ≤ n ∧ Hid (Row wr g S) ∧ Hid (WordT a d k S r) ∧ Below g w wr) (fun _ i _ => (intOf i + 1).toNat)
 case atStart => exact ⟨n, a, 0, rfl, rfl, Nat.le_refl _, HR, HST, Below.refl _ _⟩
 case round =>
  obtain ⟨k, S, r, rfl, rfl, hk, HS, HT, hbw⟩ := hrel
  by_cases h0 : k = 0
  ·subst h0
   obtain ⟨f1, f2⟩ := HT.out.fin
   have HF := Lh f1
   have HL := Lh HT.out.len
   rw [f2]
   clear f1 f2
   go_wp2
   go_ret
   exact ⟨rfl, S, HS.out, by rw [HL.out, HN.out], HT.out.ws, HF.out, hbw⟩
  ·obtain ⟨j, rfl⟩ : ∃ j, k = j + 1 := ⟨k - 1, by omega⟩
   have hja : j < a.length := by rw [HN.out]; omega
   obtain ⟨e1, e2, hnx⟩ := HT.out.next HW.out hja HD.out
   have hcell := HS.out.cell j (by rw [HT.out.len]; exact hja)
   have hfz := HS.out.frozen j
   have hx := HW.out.getD j
   have C1 := Lh (fun W => P6 r (a.getD j 0) d W HT.out.low hx HD.out)
   rw [e1] at hcell
   obtain ⟨x, hxe⟩ : ∃ x, a.getD j 0 = x := ⟨_, rfl⟩
   rw [hxe] at hcell C1 hnx
   obtain ⟨q, hq⟩ : ∃ q, (r * 4294967296 + x) / d = q := ⟨_, rfl⟩
   obtain ⟨z, hz⟩ : ∃ z, (r * 4294967296 + x) % d = z := ⟨_, rfl⟩
   rw [hq, hz] at C1 hnx
   have HNX := Lh hnx
   have hjn : (j : Int) < (n : Int) := by omega
   have k1 : IntKind.i64.wrap ((j : Int) - 1) = (j : Int) - 1 := IntWalk.i64_in _ (by omega)
   clear e1 e2 hnx hja hx hxe hq hz h0
   rw [show (((j + 1 : Nat) : Int) - 1) = (j : Int) by omega]
   go_wp2_with (go_at_call 387; refine (C1.out _).mono ?_; rintro e w' ⟨rfl, j2, rfl⟩)
   go_roundw
   case rel => exact ⟨j, _, z, by go_num, rfl, by omega, Lh ((HS.out.drewN j2).set j q), HNX, (Ac hbw j2).setCell (Nat.le_refl _) _⟩
   case measure => simp [intOf]

open Go.RowKit
theorem Ada {v : Nat} (h : Am v = false) : (wds v).length ≤ 1024 := by
 unfold Am at h
 have h1 := of_decide_eq_false h
 omega
open Go.RowKit
theorem Abo (x y c : Nat) (w : World) (hx : x < 4294967296) (hy : y < 4294967296) (hc : c < 4294967296) :
  Cq 393 #[.int .u32 x, .int .u32 y, .int .u32 c] (.tuple #[.int .u32 ((x + y + c) % 4294967296 : Nat), .int .u32 ((x + y + c) / 4294967296 : Nat)]) w := by
 have k1 : IntKind.u64.wrap (x : Int) = (x : Int) := IntWalk.u64_in _ (by omega)
 have k2 : IntKind.u64.wrap (y : Int) = (y : Int) := IntWalk.u64_in _ (by omega)
 have k3 : IntKind.u64.wrap (c : Int) = (c : Int) := IntWalk.u64_in _ (by omega)
 have k4 : IntKind.u64.wrap ((x : Int) + (y : Int)) = (x : Int) + (y : Int) := IntWalk.u64_in _ (by omega)
 obtain ⟨t, ht⟩ : ∃ t, x + y + c = t := ⟨_, rfl⟩
 have k5 : IntKind.u64.wrap ((x : Int) + (y : Int) + (c : Int)) = (t : Int) := by rw [IntWalk.u64_in _ (by omega)]; omega
 rw [ht]
 have HT := Lh (show t < 12884901888 by omega)
 have k6 : IntKind.u32.wrap ((t : Int) / 4294967296) = (t : Int) / 4294967296 := IntWalk.u32_in _ (by omega)
 clear hx hy hc ht
 go_enter Tryz.func393, Tryz.ntmps393
 go_wp2
 go_ret2
 exact ⟨rfl, rfl⟩
open Go.RowKit
theorem E1 (A C : Option Addr) (n c m d : Nat) (l k : List Nat) (w : World) (hn : l.length = n) (hm : n ≤ 35184372087808) (h : RW w w.heap.size A l)
  (gn : k.length = m) (gm : m ≤ 35184372087808) (g : RW w w.heap.size C k) :
  Cp 264 #[.slice A n c, .slice C m d] w (SlPost (wds (val l + val k)) w) := by
 obtain ⟨i0, hi, hz0, hz1, hz2⟩ := info_parts Ei
 have C1 := Lh (fun W (hb : Below w.heap.size w W) i => Aj A n c i l w.heap.size W hn (by omega) (h.below hb))
 have C2 := Lh (fun W (hb : Below w.heap.size w W) i => Aj C m d i k w.heap.size W gn (by omega) (g.below hb))
 have HL := Lh h.1
 have HK := Lh g.1
 have HN := Lh hn
 have HM := Lh gn
 have hn1 : (n : Int) ≤ 35184372087808 := by omega
 have hm1 : (m : Int) ≤ 35184372087808 := by omega
 clear hn hm h gn gm g
 go_enter Tryz.func264, Tryz.ntmps264
 go_wp2
 go_loopw [5, 6, 7] (fun v cv i wr => ∃ (q : Nat) (S : List Nat) (r : Nat), i = .int .i64 q ∧ cv = .int .u64 (r : Nat) ∧ (q : Int) ≤ 35184372087808 ∧ Hid (OwnW w.heap.size S v wr) ∧ Hid (SumT l k q S r) ∧ Hid (S.length = q) ∧ Hid (q ≤ max n m) ∧ Below w.heap.size w wr) (fun _ _ i _ => max n m - (intOf i).toNat)
 case atStart => exact ⟨0, [], 0, rfl, rfl, by omega, Lh (OwnW.nil _ _), Lh (SumT.start l k [] Ws.nil), Lh rfl, Lh (Nat.zero_le _), Below.refl _ _⟩
 case round =>
  obtain ⟨q, S, r, rfl, rfl, hq, HO, HT, HSL, HQ, hbw⟩ := hrel
  have hsl : S.length = q := HSL.out
  by_cases hend : n ≤ q ∧ m ≤ q
  ·obtain ⟨h1, h2⟩ := hend
   obtain ⟨e1, e2⟩ := HT.out.end_ (by rw [HN.out]; exact h1) (by rw [HM.out]; exact h2) hsl
   have hr := HT.out.low
   have k1 : IntKind.u32.wrap (r : Int) = (r : Int) := IntWalk.u32_in _ (by omega)
   have d1 : decide (q < n) = false := by simp; omega
   have d2 : decide (q < m) = false := by simp; omega
   have HE1 := Lh e1
   have HE2 := Lh (show nrm (S ++ [r]) = wds (val l + val k) by rw [Be e1, e2])
   have HSL2 := Lh (show (S.length + 1) * 4 ≤ 140737488355328 ∧ S.length + 1 ≤ maxLen ∧ S.length + 1 ≤ 35184372088832 by unfold maxLen; omega)
   clear h1 h2 e1 e2 hr hsl
   go_wp2_with (at_builtin; refine wpList_append_own _ rfl _ _ 180 rfl w.heap.size 156 i0 (.int .u32 0) 1 4 Tryz.underlying180 hi hz0 hz1 hz2 rfl (by decide) _ _ _ rfl (World.ownsRow.alloc (w := wr) HO.out _) ⟨wr.heap.size, 0, none⟩ 1 1 [.int .u32 (r : Nat)] rfl rfl ?c1 ?c2 ?c3 ?c4 ?c5 ?_)
   case c1 => exact (cell_one_new _ _ _)
   case c2 => simp [Value.oneCell']
   case c3 => exact HSL2.out.2.1
   case c4 => exact HSL2.out.1
   case c5 => have := hbw.size; simp; omega
   intro v' w2 hown hg _
   have ho := OwnW.snoc hown
   have hbb : Below w.heap.size w w2 := (hbw.alloc hbw.size _).grown hg (by have := hbw.size; simp; omega) (fun j hj => (World.ownsRow.lt HO.out j hj).1)
   obtain ⟨A2, c2, hv, hcc, hr2⟩ := ho.sl HE1.out
   obtain ⟨N2, hN2⟩ : ∃ N2, (S ++ [r]).length = N2 := ⟨_, rfl⟩
   have C3 := Lh (Bs A2 N2 c2 (S ++ [r]) w2.heap.size w2 hN2 (by rw [← hN2]; exact hcc) (by rw [← hN2, List.length_append]; exact HSL2.out.2.2) hr2)
   rw [hN2] at hv
   clear hown hg ho hr2 hcc hN2
   subst hv
   go_wp2_with fail
   refine C3.out.mono ?_
   rintro e w3 ⟨v3, rfl, ho3, hb3⟩
   rw [HE2.out] at ho3
   have HO3 := Lh (ho3.sl (Az _))
   clear ho3 C3
   go_wp2
   go_ret
   exact ⟨_, rfl, HO3.out, Aa hbb hb3⟩
  ·have hx := HL.out.getD q
   have hy := HK.out.getD q
   have hr := HT.out.low
   obtain ⟨t, ht⟩ : ∃ t, Xm l k q r = t := ⟨_, rfl⟩
   have htl := Y2 (k := q) HL.out HK.out hr
   rw [ht] at htl
   have D1 := Lh (C1.out wr hbw q)
   have D2 := Lh (C2.out wr hbw q)
   have HNX := Lh (show SumT l k (q + 1) (S ++ [t % 4294967296]) (t / 4294967296) by
    rw [← ht]
    refine HT.out.next HL.out HK.out (HT.out.ws.append (Ws.cons (by omega) Ws.nil)) ?_ ?_
    ·rw [List.take_append_of_le_length (by omega)]
    ·rw [List.getD_eq_getElem?_getD, List.getElem?_append_right (by omega), hsl]; simp)
   obtain ⟨x, hxe⟩ : ∃ x, l.getD q 0 = x := ⟨_, rfl⟩
   obtain ⟨y, hye⟩ : ∃ y, k.getD q 0 = y := ⟨_, rfl⟩
   have hsum : x + y + r = t := by rw [← hxe, ← hye]; exact ht
   rw [hxe] at D1 hx
   rw [hye] at D2 hy
   have k1 : IntKind.u64.wrap ((x : Int) + (y : Int)) = (x : Int) + (y : Int) := IntWalk.u64_in _ (by omega)
   have k2 : IntKind.u64.wrap ((x : Int) + (y : Int) + (r : Int)) = (t : Int) := by rw [IntWalk.u64_in _ (by omega)]; omega
   have hlt : decide (q < n) = true ∨ (decide (q < n) = false ∧ decide (q < m) = true) := by simp; omega
   have HSL2 := Lh (show (S.length + 1) * 4 ≤ 140737488355328 ∧ S.length + 1 ≤ maxLen by unfold maxLen; omega)
   have HSL3 := Lh (show (S ++ [t % 4294967296]).length = q + 1 by rw [List.length_append, hsl]; rfl)
   have HQ2 := Lh (show q + 1 ≤ max n m by omega)
   have hq2 : ((q : Int) + 1) ≤ 35184372087808 := by omega
   clear hx hy hr ht htl hxe hye hsum hsl hend
   rcases hlt with d1 | ⟨d1, d2⟩
   all_goals
    go_wp2_with fail
    refine D1.out.mono ?_
    rintro e w1 ⟨rfl, rfl⟩
    go_wp2_with fail
    refine D2.out.mono ?_
    rintro e w1 ⟨rfl, rfl⟩
    go_wp2_with (at_builtin; refine wpList_append_own _ rfl _ _ 180 rfl w.heap.size 156 i0 (.int .u32 0) 1 4 Tryz.underlying180 hi hz0 hz1 hz2 rfl (by decide) _ _ _ rfl (World.ownsRow.alloc (w := wr) HO.out _) ⟨wr.heap.size, 0, none⟩ 1 1 [.int .u32 ((t % 4294967296 : Nat) : Int)] rfl rfl ?c1 ?c2 ?c3 ?c4 ?c5 ?_)
    case c1 => exact (cell_one_new _ _ _)
    case c2 => simp [Value.oneCell']
    case c3 => exact HSL2.out.2
    case c4 => exact HSL2.out.1
    case c5 => have := hbw.size; simp; omega
    intro v' w2 hown hg _
    have HO2 := Lh (OwnW.snoc hown)
    have hbb : Below w.heap.size w w2 := (hbw.alloc hbw.size _).grown hg (by have := hbw.size; simp; omega) (fun j hj => (World.ownsRow.lt HO.out j hj).1)
    clear hown hg
    go_wp2
    go_roundw
    case rel => exact ⟨q + 1, _, t / 4294967296, by go_num, by go_num, by omega, HO2, HNX, HSL3, HQ2, hbb⟩
    case measure => have := HQ2.out; simp [intOf]; omega

open Go.RowKit
theorem Ac6 {P Q v u : Nat} (h1 : v < P) (h2 : u < P) (h3 : 2 * P ≤ Q) : v + u < Q := by omega
theorem Lv (v u : Nat) : (wds (v + u)).length ≤ max (wds v).length (wds u).length + 1 := by
 obtain ⟨K, hK⟩ : ∃ K, max (wds v).length (wds u).length = K := ⟨_, rfl⟩
 rw [hK]
 exact Bd (Ac6 (Nat.lt_of_lt_of_le (F7 v) (Nat.pow_le_pow_right (by omega) (by omega))) (Nat.lt_of_lt_of_le (F7 u) (Nat.pow_le_pow_right (by omega) (by omega))) (Qb K))
open Go.RowKit
open Go.RowKit
theorem F2 (n : Nat) (h : n < 18446744073709551616) : nrm (two n) = wds n := by rw [Be (Agx h), Zq]


end
section
theorem Bn (u : Nat) (w : World) : Cq 76 #[.int .u16 u] (.bool (Ah u)) w := by
 have h : Ah u = (decide (48 ≤ (u : Int)) && decide ((u : Int) ≤ 57)) := by
  unfold Ah
  rw [Bool.eq_iff_iff]
  simp
  omega
 rw [h]
 clear h
 by_cases h1 : 48 ≤ (u : Int)
 ·by_cases h2 : (u : Int) ≤ 57
  ·skip
   go_enter Tryz.func76, Tryz.ntmps76
   go_wp2
   go_ret
   exact ⟨by simp [h1, h2], rfl⟩
  ·skip
   go_enter Tryz.func76, Tryz.ntmps76
   go_wp2
   go_ret
   exact ⟨by simp [h2], rfl⟩
 ·skip
  go_enter Tryz.func76, Tryz.ntmps76
  go_wp2
  go_ret
  exact ⟨by simp; omega, rfl⟩
def hxI (u : Nat) : Nat := if Bh u = true then dgt u else 99
theorem Nw (u : Nat) (w : World) : Cq 113 #[.int .u16 u] (.int .i64 ((hxI u : Nat) : Int)) w := by
 unfold hxI
 by_cases h : u < 128
 ·have C1 := fun W => Cd u W (by omega)
  have hu : (u : Int) < 128 := by omega
  have hw : IntKind.u8.wrap (u : Int) = (u : Int) := IntWalk.u8_in _ (by omega)
  cases hx : Bh u
  ·have hd : ¬ dgz u < 16 := by rw [Wp (by omega)]; unfold Bh at hx; simpa using hx
   obtain ⟨d, hdd⟩ : ∃ d, dgz u = d := ⟨_, rfl⟩
   rw [hdd] at C1 hd
   rw [if_neg (by simp)]
   have g : ¬ ((d : Int) < 16) := by omega
   have C1 := Lh C1
   clear hx hdd hd h
   go_enter Tryz.func113, Tryz.ntmps113
   go_wp2_with fail
   refine Sm (C1.out _) ?_
   go_wp2
   go_ret
   exact ⟨rfl, rfl⟩
  ·have hd : dgt u < 16 := by unfold Bh at hx; simpa using hx
   have hz := Gu (by omega) hd
   obtain ⟨d, hdd⟩ : ∃ d, dgt u = d := ⟨_, rfl⟩
   rw [hz, hdd] at C1
   rw [hdd] at hd
   rw [if_pos rfl, hdd]
   clear hz
   have g : ((d : Int) < 16) := by omega
   have C1 := Lh C1
   clear hx hdd hd h
   go_enter Tryz.func113, Tryz.ntmps113
   go_wp2_with fail
   refine Sm (C1.out _) ?_
   go_wp2_with fail
   refine Sm (C1.out _) ?_
   go_wp2
   go_ret
   exact ⟨rfl, rfl⟩
 ·have hx : Bh u = false := by
   cases hx : Bh u
   ·rfl
   ·exfalso
    unfold Bh dgt at hx
    simp at hx
    split at hx <;> (try split at hx) <;> (try split at hx) <;> omega
  rw [hx, if_neg (by simp)]
  have g : ¬ ((u : Int) < 128) := by omega
  clear h hx
  go_enter Tryz.func113, Tryz.ntmps113
  go_wp2
  go_ret
  exact ⟨rfl, rfl⟩
theorem Ib (s t : ByteArray) (i : Nat) (w : World) (hs : s.size ≤ 140737488355328) (hi : i ≤ 140737488355328) (ht : t.size ≤ 8) :
  Cp 41 #[.string s, .int .i64 i, .string t] w fun e w' => e = .returned (.bool ((wdL t).isPrefixOf ((us s).drop i))) ∧ ∃ n, w' = w.drewN n := by
 have hs63 : s.size ≤ maxLen := by unfold maxLen; omega
 have C1 := Lh (fun (j : Nat) W => Bz s j W hs63)
 obtain ⟨R, hR⟩ : ∃ R, (wdL t).isPrefixOf ((us s).drop i) = R := ⟨_, rfl⟩
 rw [hR]
 have HR := Lh hR
 have hil : (i : Int) ≤ 140737488355328 := by omega
 have HT := Lh ht
 clear hs hs63 hR hi ht
 go_enter Tryz.func41, Tryz.ntmps41
 go_wp2
 go_loopw [7] (fun kv wr => ∃ k : Nat, kv = .int .i64 k ∧ k ≤ t.size ∧ Hid (((wdL t).drop k).isPrefixOf ((us s).drop (i + k)) = R) ∧ ∃ n, wr = w.drewN n) (fun kv _ => t.size - (intOf kv).toNat)
 case atStart => exact ⟨0, by go_num, Nat.zero_le _, Lh (by simpa using HR.out), 0, rfl⟩
 case round =>
  obtain ⟨k, rfl, hk, HJ, n0, rfl⟩ := hrel
  have hkl : (k : Int) ≤ 8 := by have := HT.out; omega
  rcases Nat.lt_or_ge k t.size with hlt | hge
  ·have hd : (wdL t).drop k = (t[k]'hlt).toNat :: (wdL t).drop (k + 1) := by
    have h' : k < (wdL t).length := by rw [En]; exact hlt
    rw [List.drop_eq_getElem_cons h']
    congr 1
    simp [wdL]; rfl
   have hj := HJ.out
   rw [hd] at hj
   obtain ⟨b, hb⟩ : ∃ b, (t[k]'hlt).toNat = b := ⟨_, rfl⟩
   have hbl : b < 256 := by rw [← hb]; exact (t[k]'hlt).toNat_lt
   have C2 := fun W => C1.out (i + k) W
   have HW : Hid (IntKind.u16.wrap (((t[k]'hlt).toNat : Nat) : Int) = (b : Int)) := Lh (by rw [hb]; exact IntWalk.u16_in _ (by omega))
   rw [hb] at hj
   rcases hdr : (us s).drop (i + k) with _ | ⟨c, r⟩
   ·rw [hdr] at hj C2
    obtain rfl : R = false := hj.symm
    have C2 := Lh (show ∀ W, Cp 48 #[.string s, .int .i64 ((i : Int) + (k : Int))] W fun e w' => e = .returned (.tuple #[.int .u16 0, .bool false]) ∧ ∃ n, w' = W.drewN n from C2)
    clear hd hj hdr hb hbl HJ HR
    go_wp2_with fail
    refine Dm (C2.out _) fun n1 => ?_
    go_wp2
    go_ret
    exact ⟨rfl, n0 + n1, by first | rfl | simp⟩
   ·rw [hdr] at hj C2
    have C2 := Lh (show ∀ W, Cp 48 #[.string s, .int .i64 ((i : Int) + (k : Int))] W fun e w' => e = .returned (.tuple #[.int .u16 (c : Nat), .bool true]) ∧ ∃ n, w' = W.drewN n from C2)
    have hr : (us s).drop (i + (k + 1)) = r := by
     rw [show i + (k + 1) = i + k + 1 by omega, ← List.drop_drop, hdr]
     rfl
    by_cases hcb : b = c
    ·subst hcb
     have HJ2 : Hid (((wdL t).drop (k + 1)).isPrefixOf ((us s).drop (i + (k + 1))) = R) := Lh (by
      rw [hr, ← hj, List.isPrefixOf]
      simp)
     clear hd hj hdr hbl HJ HR hr
     have hw := HW.out
     have hw2 : ((b : Int) != IntKind.u16.wrap (((t[k]'hlt).toNat : Nat) : Int)) = false := by rw [hw]; simp
     clear HW hw hb
     go_wp2_with fail
     refine Dm (C2.out _) fun n1 => ?_
     go_wp2
     go_roundw
     case rel => exact ⟨k + 1, by go_num, hlt, HJ2, n0 + n1, by first | rfl | simp⟩
     case measure => simp [intOf]; omega
    ·obtain rfl : R = false := by rw [← hj, List.isPrefixOf]; simp [hcb]
     have g1 : ((c : Int) != IntKind.u16.wrap (((t[k]'hlt).toNat : Nat) : Int)) = true := by rw [HW.out]; simp; omega
     clear hd hj hdr hb hbl HJ HR hr hcb HW
     go_wp2_with fail
     refine Dm (C2.out _) fun n1 => ?_
     go_wp2
     go_ret
     exact ⟨rfl, n0 + n1, by first | rfl | simp⟩
  ·have hkt : k = t.size := by omega
   obtain rfl : R = true := by
    rw [← HJ.out, hkt, List.drop_eq_nil_iff.2 (by rw [En]; exact Nat.le_refl _)]
    rfl
   have g1 : decide (k < t.size) = false := by simp; omega
   clear HJ HR
   go_wp2
   go_ret
   exact ⟨rfl, n0, rfl⟩

end
section
theorem Ad7 (x y s : Nat) (hs : s ≤ 32) (hx : x < 4294967296) : bits BinOp.or IntKind.u32 ((x : Int) / 2 ^ s) ((y : Int) * 2 ^ (32 - s) % 4294967296) = ((y * 2 ^ (32 - s) % 4294967296 + x / 2 ^ s : Nat) : Int) := by
 have h := Ady y x (32 - s) (by omega) hx
 rw [show 32 - (32 - s) = s by omega] at h
 have h1 : x / 2 ^ s < 4294967296 := Nat.lt_of_le_of_lt (Nat.div_le_self _ _) hx
 have h2 : y * 2 ^ (32 - s) % 4294967296 < 4294967296 := Nat.mod_lt _ (by omega)
 rw [← h, Nat.or_comm, ← Qu _ _ h1 h2, Int.natCast_ediv, Int.natCast_emod, Int.natCast_mul, Int.natCast_pow, Int.natCast_pow]
 rfl
theorem Ahy (g o n c s : Nat) (R : List Nat) (A : Option Addr) (m d : Nat) (b : List Nat) (B : Nat) (w : World) (hR : Row w g R) (hRw : Ws R) (ho : o + n ≤ R.length) (hbl : b.length = m) (hm : m ≤ 35184372087808) (hn : n ≤ 35184372087808)
  (hB : RW w B A b) (hgB : B ≤ g) (hs : s < 32) :
  Cp 359 #[.slice (some ⟨g, o, none⟩) n c, .slice A m d, .int .i64 s] w (fun e w' => e = .returned (.tuple #[]) ∧ ∃ S, ShrP R o b s n S ∧ Row w' g S ∧ Below g w w') := by
 have hn1 : (n : Int) ≤ 35184372087808 := by omega
 have hs1 : (s : Int) < 32 := by omega
 have hs0 : (0 : Int) ≤ (s : Int) := by omega
 have hB2 := Lh hB
 have HR := Lh hR
 have HSTART := Lh (ShrP.start o b s hRw)
 clear hR
 go_enter Tryz.func359, Tryz.ntmps359
 go_wp2
 go_loopw [9] (fun i wr => ∃ (k : Nat) (S : List Nat), i = .int .i64 k ∧ k ≤ n ∧ Hid (Row wr g S) ∧ Hid (ShrP R o b s k S) ∧ Below g w wr) (fun i _ => n - (intOf i).toNat)
 case atStart => exact ⟨0, R, rfl, Nat.zero_le _, HR, HSTART, Below.refl _ _⟩
 case round =>
  obtain ⟨k, S, rfl, hk, HRS, HS, hbw⟩ := hrel
  by_cases hlt : k < n
  ·have hS := HRS.out.cell (o + k) (by have := HS.out.len; omega)
   have hfz := HRS.out.frozen (o + k)
   have HNX := Lh (HS.out.next hB2.out.1 (by omega) (by have := HS.out.len; omega))
   have HROW := Lh (HRS.out.set (o + k) (Gk b s k))
   have C1 := Lh (fun W (hW : Below g w W) => Ez A m d k b B W hbl (by omega) (hB2.out.below (hW.mono hgB)))
   have C2 := Lh (fun W (hW : Below g w W) => Ez A m d (k + 1) b B W hbl (by omega) (hB2.out.below (hW.mono hgB)))
   have hbd := Ac hbw 1
   have HBS := Lh (show Below g w (wr.setCell ⟨g, o + k, none⟩ (.int .u32 (Gk b s k : Nat))) from hbw.setCell (Nat.le_refl _) _)
   obtain ⟨x, hx⟩ : ∃ x, b.getD k 0 = x := ⟨_, rfl⟩
   rw [hx] at C1
   obtain ⟨y, hy⟩ : ∃ y, b.getD (k + 1) 0 = y := ⟨_, rfl⟩
   rw [hy] at C2
   rw [show ((k + 1 : Nat) : Int) = (k : Int) + 1 by omega] at C2
   have HW := Lh (show ((Gk b s k : Nat) : Int) = bits BinOp.or IntKind.u32 ((x : Int) / 2 ^ s) ((y : Int) * 2 ^ (32 - s) % 4294967296) by
    rw [Ad7 x y s (by omega) (by rw [← hx]; exact hB2.out.1.getD k)]
    unfold Gk; rw [hx, hy])
   have hkk : (k : Int) < (n : Int) := by omega
   have e1 : IntKind.i64.wrap ((k : Int) + 1) = (k : Int) + 1 := IntWalk.i64_in _ (by omega)
   have e2 : IntKind.i64.wrap (32 - (s : Int)) = 32 - (s : Int) := IntWalk.i64_in _ (by omega)
   have e3 : (0 : Int) ≤ 32 - (s : Int) := by omega
   clear hx hy hB ho hbl hk
   go_wp2
   go_region_with (first
      | (go_at_call 329; (with_reducible refine (C1.out _ ?_).mono ?_); exact hbd; rintro e w' ⟨rfl, rfl⟩)
      | (go_at_call 329; (with_reducible refine (C2.out _ ?_).mono ?_); exact hbd; rintro e w' ⟨rfl, rfl⟩))
   all_goals
    go_wp2_with fail
    rw [← HW.out]
    exact ⟨⟨k + 1, _, by go_num, hlt, HROW, HNX, Ac HBS.out 1⟩, by simp [intOf]; omega⟩
  ·have hkn : k = n := by omega
   subst hkn
   clear hlt hbl
   go_wp2
   go_end0
   exact ⟨rfl, S, HS.out, HRS.out, hbw⟩

theorem Ji (m : Nat) : 4294967296 ^ m = 2 ^ (32 * m) := by rw [Nat.pow_mul]
theorem Afk {B P v t u L : Nat} (e : v = t + B * u) (h1 : t < B) (h2 : P ≤ u) (h3 : u < L) : B * P ≤ v ∧ v < B * L := by
 have a := Nat.mul_le_mul_left B h2
 have b : B * (u + 1) ≤ B * L := Nat.mul_le_mul_left B h3
 rw [Nat.mul_add, Nat.mul_one] at b
 omega
theorem Bc {l : List Nat} (h : Ws l) (h0 : nrm l ≠ []) : 2 ^ (btl l - 1) ≤ val l ∧ val l < 2 ^ btl l ∧ 0 < btl l := by
 have hp : 0 < (nrm l).length := List.length_pos_iff.2 h0
 have hle := Aw l
 have hge := Nv (l := l) h0
 obtain ⟨m, hm⟩ : ∃ m, (nrm l).length = m + 1 := ⟨(nrm l).length - 1, by omega⟩
 have e : val l = val (l.take m) + 4294967296 ^ m * l.getD m 0 := by
  rw [← Aq, ← hm, ← Hl, Ar]
 have h1 : val (l.take m) < 4294967296 ^ m := by
  have := Ed (h.take m)
  rwa [List.length_take, Nat.min_eq_left (by omega)] at this
 have eb : btl l = 32 * m + Lib.bitLen (l.getD m 0) := by unfold btl; rw [if_neg h0, hm, Nat.add_sub_cancel]
 have hu := h.getD m
 rw [hm, Nat.add_sub_cancel] at hge
 obtain ⟨u, hu0⟩ : ∃ u, l.getD m 0 = u := ⟨_, rfl⟩
 rw [hu0] at e eb hu
 have hz : u ≠ 0 := by intro z; rw [z, Nat.mul_zero] at e; omega
 obtain ⟨b1, b2, b3⟩ := Lib.bitLenAux_bounds 64 u (by omega) hz
 change btl l = 32 * m + Lib.bitLenAux 64 u at eb
 rw [eb]
 generalize Lib.bitLenAux 64 u = L at *
 obtain ⟨c1, c2⟩ := Afk e h1 b2 b3
 rw [Ji, ← Nat.pow_add] at c1 c2
 refine ⟨?_, c2, by omega⟩
 rw [show 32 * m + L - 1 = 32 * m + (L - 1) by omega]
 exact c1
theorem Af6 {l : List Nat} (h : Ws l) : btl l ≤ 32 * (nrm l).length := by
 unfold btl
 split
 ·omega
 ·next h0 =>
  have hp : 0 < (nrm l).length := List.length_pos_iff.2 h0
  have := F4 _ (h.getD ((nrm l).length - 1))
  omega
theorem Ajf {v k : Nat} (hk : 32768 ≤ k) (h : 2 ^ k ≤ v) : Am v = true := by
 unfold Am
 refine decide_eq_true ?_
 rcases Nat.lt_or_ge 1024 (wds v).length with h1 | h1
 ·exact h1
 ·have h2 := F7 v
  rw [Ji] at h2
  have h3 : 2 ^ (32 * (wds v).length) ≤ 2 ^ k := Nat.pow_le_pow_right (by omega) (by omega)
  exact absurd (Nat.lt_of_lt_of_le h2 (Nat.le_trans h3 h)) (Nat.lt_irrefl _)
theorem Afz {l : List Nat} {n : Nat} (h : Ws l) (h0 : nrm l ≠ []) (hn : 32768 < btl l + n) : Am (val l * 2 ^ n) = true := by
 obtain ⟨h1, _, h3⟩ := Bc h h0
 refine Ajf (k := btl l - 1 + n) (by omega) ?_
 rw [Nat.pow_add]
 exact Nat.mul_le_mul_right _ h1
theorem ShlP.all {o n s : Nat} {b S : List Nat} (h : ShlP (List.replicate (o + n) 0) o b s n S) (hn : b.length < n) : val S = val b * 2 ^ (32 * o + s) := by
 have hl := h.len
 rw [List.length_replicate] at hl
 have e1 : val S = val (S.take (o + n)) := by rw [List.take_of_length_le (by omega)]
 have e2 : S.take o = (List.replicate (o + n) 0).take o := Co o (by omega) (by rw [List.length_replicate]; omega) (fun j hj => h.far j (Or.inl hj))
 rw [e1, Fq S o n (by omega), h.whole hn, e2, List.take_replicate, Gi, Ji, Nat.zero_add, Nat.pow_add]
 grind

open Go.RowKit
def Tj (v : Nat) (n : Int) (w : World) (e : Ending) (w' : World) : Prop := if Am v = true then F1 3 w e w' else if n < 0 then F1 1 w e w' else NatPost (v * 2 ^ n.toNat) w e w'
theorem Aba (A : Option Addr) (n c : Nat) (p : Int) (l : List Nat) (w : World) (hn : l.length = n) (hc : n ≤ c) (hm : n ≤ 35184372088832) (h : RW w w.heap.size A l) (hl : Am (val l) = true) :
  Cp 340 #[.slice A n c, .int .i64 p] w (F1 3 w) := by
 have c1 := Av A n c l w.heap.size w hn hc hm h
 have hle := Aw l
 obtain ⟨N, hN⟩ : ∃ N, (nrm l).length = N := ⟨_, rfl⟩
 rw [hN] at c1 hle
 have c2 := De A N N (nrm l) w hN (Nat.le_refl _) (by omega) h.nrm
 rw [Ar, hl] at c2
 have HP := Lh (show Below w.heap.size w (lone w (.slice A N N)) from (Below.refl _ _).alloc (Nat.le_refl _) _)
 clear hn hc hm h hl hle hN
 go_enter Tryz.func340, Tryz.ntmps340
 go_wp2_with fail
 refine c1.mono ?_
 rintro e w1 ⟨rfl, rfl⟩
 go_wp2_with fail
 refine c2.mono ?_
 rintro e w1 ⟨rfl, rfl⟩
 go_wp2
 go_ret2
 exact ⟨rfl, HP.out⟩
theorem Agy (A : Option Addr) (n c : Nat) (p : Int) (l : List Nat) (w : World) (hn : l.length = n) (hc : n ≤ c) (hm : n ≤ 35184372088832) (h : RW w w.heap.size A l) (hl : Am (val l) = false) (hp : p < 0) :
  Cp 340 #[.slice A n c, .int .i64 p] w (F1 1 w) := by
 have c1 := Av A n c l w.heap.size w hn hc hm h
 have hle := Aw l
 obtain ⟨N, hN⟩ : ∃ N, (nrm l).length = N := ⟨_, rfl⟩
 rw [hN] at c1 hle
 have c2 := De A N N (nrm l) w hN (Nat.le_refl _) (by omega) h.nrm
 rw [Ar, hl] at c2
 have HP := Lh (show Below w.heap.size w (lone w (.slice A N N)) from (Below.refl _ _).alloc (Nat.le_refl _) _)
 clear hn hc hm h hl hle hN
 go_enter Tryz.func340, Tryz.ntmps340
 go_wp2_with fail
 refine c1.mono ?_
 rintro e w1 ⟨rfl, rfl⟩
 go_wp2_with fail
 refine c2.mono ?_
 rintro e w1 ⟨rfl, rfl⟩
 go_wp2
 go_ret2
 exact ⟨rfl, HP.out⟩
theorem Aci (A : Option Addr) (n c : Nat) (p : Int) (l : List Nat) (w : World) (hn : l.length = n) (hc : n ≤ c) (hm : n ≤ 35184372088832) (h : RW w w.heap.size A l) (hp : 0 ≤ p) (h0 : nrm l = []) :
  Cp 340 #[.slice A n c, .int .i64 p] w (NatPost 0 w) := by
 have c1 := Av A n c l w.heap.size w hn hc hm h
 rw [h0] at c1
 have c2 := De A 0 0 [] w rfl (Nat.le_refl _) (by omega) (RW.nil _ _ _)
 rw [show Am (val []) = false from D0 (by simp [val])] at c2
 have HP := Lh (show Below w.heap.size w (lone w (.slice A 0 0)) from (Below.refl _ _).alloc (Nat.le_refl _) _)
 have hp1 : ¬ p < 0 := by omega
 clear hn hc hm h h0
 go_enter Tryz.func340, Tryz.ntmps340
 go_wp2_with fail
 refine c1.mono ?_
 rintro e w1 ⟨rfl, rfl⟩
 go_wp2_with fail
 refine c2.mono ?_
 rintro e w1 ⟨rfl, rfl⟩
 go_wp2
 go_ret2
 exact NatPost.ok (D0 (by omega)) rfl (Nat.le_refl _) (RW.nil _ _ _) HP.out
theorem Afq (A : Option Addr) (n c : Nat) (p : Int) (l : List Nat) (w : World) (hn : l.length = n) (hc : n ≤ c) (hm : n ≤ 35184372088832) (h : RW w w.heap.size A l) (hl : Am (val l) = false) (hp : 0 ≤ p) (h0 : nrm l ≠ []) (hf : 32768 < (btl (nrm l) : Int) + p) :
  Cp 340 #[.slice A n c, .int .i64 p] w (fun e w' => e = .returned (.tuple #[.slice none 0 0, .int .i64 3]) ∧ Below w.heap.size w w') := by
 have c1 := Av A n c l w.heap.size w hn hc hm h
 have n1 := Fd h.1 hl
 have hpos : 0 < (nrm l).length := List.length_pos_iff.2 h0
 obtain ⟨N, hN⟩ : ∃ N, (nrm l).length = N := ⟨_, rfl⟩
 rw [hN] at c1 n1 hpos
 have c2 := De A N N (nrm l) w hN (Nat.le_refl _) (by omega) h.nrm
 rw [Ar, hl] at c2
 have hp2 : Below w.heap.size w (lone w (.slice A N N)) := (Below.refl _ _).alloc (Nat.le_refl _) _
 have c3 := Fj A N N (nrm l) w.heap.size _ hN (Nat.le_refl _) (by omega) (h.nrm.below hp2)
 have hb := Af6 h.1.nrm
 rw [Ev, hN] at hb
 obtain ⟨q, hq⟩ : ∃ q, btl (nrm l) = q := ⟨_, rfl⟩
 rw [hq] at c3 hf hb
 have HP := Lh hp2
 have hp1 : ¬ p < 0 := by omega
 have hN0 : (0 : Int) < (N : Int) := by omega
 have hqq : (q : Int) ≤ 32768 := by omega
 have e1 : IntKind.i64.wrap (32768 - (q : Int)) = 32768 - (q : Int) := IntWalk.i64_in _ (by omega)
 have e2 : 32768 - (q : Int) < p := by omega
 clear hn hc hm h hl hN h0 hp2 hq hpos n1 hb hf
 go_enter Tryz.func340, Tryz.ntmps340
 go_wp2_with fail
 refine c1.mono ?_
 rintro e w1 ⟨rfl, rfl⟩
 go_wp2_with fail
 refine c2.mono ?_
 rintro e w1 ⟨rfl, rfl⟩
 go_wp2_with fail
 refine c3.mono ?_
 rintro e w1 ⟨rfl, rfl⟩
 go_wp2
 go_ret2
 exact ⟨rfl, HP.out⟩
open Go.RowKit
theorem Ah6 (A : Option Addr) (n c : Nat) (p o s : Nat) (l : List Nat) (w : World) (hn : l.length = n) (hc : n ≤ c) (hm : n ≤ 35184372088832) (h : RW w w.heap.size A l) (hl : Am (val l) = false) (h0 : nrm l ≠ []) (hf : btl (nrm l) + p ≤ 32768)
  (hpo : p = 32 * o + s) (hs : s < 32) :
  Cp 340 #[.slice A n c, .int .i64 p] w (NatPost (val l * 2 ^ p) w) := by
 have c1 := Av A n c l w.heap.size w hn hc hm h
 have n1 := Fd h.1 hl
 have hpos : 0 < (nrm l).length := List.length_pos_iff.2 h0
 obtain ⟨N, hN⟩ : ∃ N, (nrm l).length = N := ⟨_, rfl⟩
 rw [hN] at c1 n1 hpos
 have c2 := De A N N (nrm l) w hN (Nat.le_refl _) (by omega) h.nrm
 rw [Ar, hl] at c2
 have hp2 : Below w.heap.size w (lone w (.slice A N N)) := (Below.refl _ _).alloc (Nat.le_refl _) _
 have c3 := Fj A N N (nrm l) w.heap.size _ hN (Nat.le_refl _) (by omega) (h.nrm.below hp2)
 rw [← Ar l]
 have hA := h.nrm.below hp2
 obtain ⟨W, hW⟩ : ∃ W, lone w (.slice A N N) = W := ⟨_, rfl⟩
 rw [hW] at c2 c3 hp2 hA
 have hmk := run_make_row' (P := Tryz.prog) 180 156 (.int .u32 0) 4 Tryz.underlying180 Ei rfl .i64 .i64 (o + N + 1) (by omega) (by omega) W
 rw [show ((o + N + 1 : Nat) : Int) = (o : Int) + (N : Int) + 1 by omega] at hmk
 have hrow := Row.made W (o + N + 1)
 have hgW := hp2.size
 have hbl0 : Below w.heap.size w (W.alloc (.cells (madeCells #[.int .u32 0] (o + N + 1)) 156)) := hp2.alloc hp2.size _
 have hbl1 : Below w.heap.size W (W.alloc (.cells (madeCells #[.int .u32 0] (o + N + 1)) 156)) := (Below.refl _ _).alloc hp2.size _
 have C4 := Lh (Si W.heap.size o (N + 1) (N + 1) s (List.replicate (o + (N + 1)) 0) A N N (nrm l) w.heap.size _ hrow (Ws.zeros _) (by rw [List.length_replicate]; exact Nat.le_refl _) hN (by omega) (by omega) (hA.below hbl1) hgW hs)
 have C5 := Lh (fun (S : List Nat) (W2 : World) (hS : ShlP (List.replicate (o + (N + 1)) 0) o (nrm l) s (N + 1) S) (hr : Row W2 W.heap.size S) =>
  show Cp 302 #[.slice (some ⟨W.heap.size, 0, none⟩) (o + N + 1) (o + N + 1)] W2 (NatPost (val (nrm l) * 2 ^ (32 * o + s)) W2) from by
   have hlen : S.length = o + N + 1 := by rw [hS.len, List.length_replicate]; omega
   have := Iw (some ⟨W.heap.size, 0, none⟩) (o + N + 1) (o + N + 1) S W2 hlen (Nat.le_refl _) (by omega) ((hr.rw0 hS.ws).more hr.lt)
   rw [hS.all (by omega)] at this
   exact this)
 have HW := Lh hW
 obtain ⟨q, hq⟩ : ∃ q, btl (nrm l) = q := ⟨_, rfl⟩
 rw [hq] at c3 hf
 obtain ⟨v, hv⟩ : ∃ v, val (nrm l) * 2 ^ p = v := ⟨_, rfl⟩
 rw [hv]
 rw [← hpo, hv] at C5
 have HBL := Lh hbl0
 have hN0 : (0 : Int) < (N : Int) := by omega
 have hN1 : (N : Int) ≤ 1024 := by omega
 have ho1 : (o : Int) ≤ 1024 := by omega
 have e1 : IntKind.i64.wrap (32768 - (q : Int)) = 32768 - (q : Int) := IntWalk.i64_in _ (by omega)
 have e2 : (p : Int) ≤ 32768 - (q : Int) := by omega
 have e3 : (p : Int) / 32 = (o : Int) := by omega
 have e4 : (p : Int) % 32 = (s : Int) := by omega
 clear hn hc hm h hl hN h0 hp2 hq hpos n1 hf hpo hrow hbl0 hbl1 hs hW hA hv
 go_enter Tryz.func340, Tryz.ntmps340
 go_wp2_with fail
 refine c1.mono ?_
 rintro e w1 ⟨rfl, rfl⟩
 go_wp2_with fail
 rw [show w.alloc (.cells #[.slice A N N] 180) = W from HW.out]
 refine c2.mono ?_
 rintro e w1 ⟨rfl, rfl⟩
 go_wp2_with fail
 refine c3.mono ?_
 rintro e w1 ⟨rfl, rfl⟩
 clear c1 c2 c3
 go_wp2_with fail
 rw [show o + N + 1 - o = N + 1 by omega]
 refine C4.out.mono ?_
 rintro e w4 ⟨rfl, S, hS, hr, hb⟩
 have D5 := Lh (C5.out S w4 hS hr)
 have HB4 := Lh (HBL.out.trans (hb.mono hgW))
 clear hS hr hb C4 C5
 go_wp2_with fail
 refine D5.out.mono ?_
 rintro e w5 hx
 obtain ⟨A5, n5, c5, k5, rfl, h3, h4⟩ := NatPost.from_ HB4.out hx
 have H3 := Lh h3
 have H4 := Lh h4
 clear h3 h4 hx D5
 go_wp2
 go_ret2
 exact ⟨A5, n5, c5, k5, rfl, H3.out, H4.out⟩

open Go.RowKit
theorem Uz (l : List Nat) (o : Nat) (ho : o ≤ l.length) : val l = val (l.take o) + 4294967296 ^ o * val (l.drop o) := by
 have h := Fq l o (l.length - o) ho
 rw [show o + (l.length - o) = l.length by omega, List.take_length, List.take_of_length_le (l := l.drop o) (by rw [List.length_drop]; omega)] at h
 exact h
theorem Zo {l : List Nat} (h : Ws l) (o : Nat) (ho : o ≤ l.length) : val (l.take o) < 4294967296 ^ o := by
 have := Ed (h.take o)
 rwa [List.length_take, Nat.min_eq_left ho] at this
theorem J3 {l : List Nat} (h : Ws l) (o s : Nat) (ho : o ≤ l.length) : val l / 2 ^ (32 * o + s) = val (l.drop o) / 2 ^ s := by
 have h1 := Zo h o ho
 rw [Nat.pow_add, ← Ji, ← Nat.div_div_eq_div_mul, Uz l o ho, Nat.add_mul_div_left _ _ (Nat.pow_pos (by omega)), Nat.div_eq_of_lt h1, Nat.zero_add]
theorem Aa9 {B T D P : Nat} (hT : T < B) (hP : 0 < P) : (T + B * D) % (B * P) = T + B * (D % P) := by
 have e : T + B * D = (T + B * (D % P)) + B * P * (D / P) := by
  have := Nat.div_add_mod D P
  have e2 : B * (P * (D / P) + D % P) = B * D := by rw [this]
  grind
 rw [e, Nat.add_mul_mod_self_left]
 refine Nat.mod_eq_of_lt ?_
 have h1 : B * (D % P + 1) ≤ B * P := Nat.mul_le_mul_left _ (Nat.mod_lt _ hP)
 rw [Nat.mul_add, Nat.mul_one] at h1
 omega
theorem Aeb {l : List Nat} {s : Nat} (hs : s ≤ 32) : val l % 2 ^ s = l.getD 0 0 % 2 ^ s := by
 cases l with
 | nil => simp [val]
 | cons x r =>
  simp only [val, List.getD_cons_zero]
  rw [← Di hs, Nat.mul_assoc, Nat.add_mul_mod_self_left]
theorem Vm {l : List Nat} (h : Ws l) (o s : Nat) (ho : o ≤ l.length) (hs : s ≤ 32) : val l % 2 ^ (32 * o + s) = val (l.take o) + 4294967296 ^ o * (l.getD o 0 % 2 ^ s) := by
 rw [Nat.pow_add, ← Ji]
 conv => lhs; rw [Uz l o ho]
 rw [Aa9 (Zo h o ho) (Nat.two_pow_pos s), Aeb hs, Cy, Nat.add_zero]
theorem V8 {l : List Nat} {k : Nat} (h : ∀ j, j < k → l.getD j 0 = 0) : val (l.take k) = 0 := Sx fun j => by
 rcases Nat.lt_or_ge j k with hj | hj
 ·rw [Kx hj]; exact h j hj
 ·rw [List.getD_eq_getElem?_getD, List.getElem?_take, if_neg (by omega)]; rfl
theorem Wj {l : List Nat} (h : Ws l) (o s k : Nat) (ho : o ≤ l.length) (hs : s ≤ 32) (hk : k < o) (hx : l.getD k 0 ≠ 0) : decide (val l % 2 ^ (32 * o + s) ≠ 0) = true := by
 refine decide_eq_true ?_
 rw [Vm h o s ho hs]
 have e : val (l.take o) ≠ 0 := by
  intro z
  have h1 := Cb z
  have h2 := Fq l k (o - k) (by omega)
  rw [show k + (o - k) = o by omega, z] at h2
  have h3 := Ax l k 0 (by omega)
  have h4 : val ((l.drop k).take (o - k)) = 0 := by
   have hp : 0 < 4294967296 ^ k := Nat.pow_pos (by omega)
   rcases Nat.eq_zero_or_pos (val ((l.drop k).take (o - k))) with h5 | h5
   ·exact h5
   ·have := Nat.mul_pos hp h5; omega
  obtain ⟨m, hm⟩ : ∃ m, o - k = m + 1 := ⟨o - k - 1, by omega⟩
  rw [hm] at h4
  have h6 := List.getD_eq_getElem?_getD (l := (l.drop k).take (m + 1)) (i := 0) (a := 0)
  have h7 : ((l.drop k).take (m + 1)).getD 0 0 = l.getD k 0 := by rw [Kx (by omega), Cy, Nat.add_zero]
  cases hc : (l.drop k).take (m + 1) with
  | nil => rw [hc] at h7; simp at h7; exact hx h7.symm
  | cons x r =>
   rw [hc] at h4 h7
   simp only [val] at h4
   simp only [List.getD_cons_zero] at h7
   omega
 omega
theorem Aaz {l : List Nat} (h : Ws l) (o s : Nat) (ho : o ≤ l.length) (hs : s ≤ 32) (hz : ∀ j, j < o → l.getD j 0 = 0) : decide (val l % 2 ^ (32 * o + s) ≠ 0) = decide (l.getD o 0 * 2 ^ (32 - s) % 4294967296 ≠ 0) := by
 rw [Vm h o s ho hs, V8 hz, Nat.zero_add]
 have h1 := E4 (l.getD o 0) (32 - s) (by omega)
 rw [show 32 - (32 - s) = s by omega] at h1
 rw [h1]
 have hp : 0 < 4294967296 ^ o := Nat.pow_pos (by omega)
 have hq : 0 < 2 ^ (32 - s) := Nat.two_pow_pos _
 refine decide_eq_decide.2 ?_
 constructor
 ·intro a b
  rcases Nat.mul_eq_zero.1 b with b | b
  ·omega
  ·rw [b, Nat.mul_zero] at a; exact a rfl
 ·intro a b
  rcases Nat.mul_eq_zero.1 b with b | b
  ·omega
  ·rw [b, Nat.mul_zero] at a; exact a rfl
theorem RW.drop {w : World} {B b off : Nat} {l : List Nat} (h : RW w B (some ⟨b, off, none⟩) l) (o : Nat) (ho : o < l.length) : RW w B (some ⟨b, off + o, none⟩) (l.drop o) := ⟨h.1.drop o, fun _ => by
 obtain ⟨b2, off2, he, hb, hc⟩ := h.2 (by omega)
 cases he
 refine ⟨b, off + o, rfl, hb, fun k u hu => ?_⟩
 rw [List.getElem?_drop] at hu
 rw [show off + o + k = off + (o + k) by omega]
 exact hc _ u hu⟩
open Go.RowKit
theorem Aka (x t : Nat) : (((x : Int) * 2 ^ t % 4294967296) != 0) = decide (x * 2 ^ t % 4294967296 ≠ 0) := by
 have e : ((x : Int) * 2 ^ t % 4294967296) = ((x * 2 ^ t % 4294967296 : Nat) : Int) := by rw [Int.natCast_emod, Int.natCast_mul, Int.natCast_pow]; rfl
 rw [e]
 by_cases h : x * 2 ^ t % 4294967296 = 0
 ·rw [h]; rfl
 ·rw [decide_eq_true h]
  simp only [bne_iff_ne, ne_eq]
  omega
theorem Acr (b off n c p o s : Nat) (l : List Nat) (B : Nat) (w : World) (hn : l.length = n) (hc : n ≤ c) (hm : n ≤ 35184372087808) (h : RW w B (some ⟨b, off, none⟩) l) (hpo : p = 32 * o + s) (hs : s < 32) (ho : o < n) :
  Cq 360 #[.slice (some ⟨b, off, none⟩) n c, .int .i64 p] (.bool (decide (val l % 2 ^ p ≠ 0))) w := by
 have hcell : ∀ k u : Nat, l[k]? = some u → w.cell? ⟨b, off + k, none⟩ = some (.int .u32 (u : Int)) := by
  obtain ⟨b2, off2, he, _, hc2⟩ := h.2 (by omega)
  cases he
  exact hc2
 have hcl := hcell o _ (getD_some (by omega))
 have HE := Lh (fun k hk hx => Wj (k := k) h.1 o s (by omega) (by omega) hk hx)
 have HL := Lh (fun hz => Aaz h.1 o s (by omega) (by omega) hz)
 rw [← hpo] at HE HL
 have HCELL := Lh hcell
 have HN := Lh hn
 have ho1 : (o : Int) < (n : Int) := by omega
 have hn1 : (n : Int) ≤ 35184372087808 := by omega
 have hc1 : (n : Int) ≤ (c : Int) := by omega
 have hoc : o ≤ c := by omega
 have e3 : (p : Int) / 32 = (o : Int) := by omega
 have e4 : (p : Int) % 32 = (s : Int) := by omega
 have p0 : (0 : Int) ≤ (p : Int) := by omega
 have hs1 : (s : Int) < 32 := by omega
 have hs0 : (0 : Int) ≤ (s : Int) := by omega
 have e2 : IntKind.i64.wrap (32 - (s : Int)) = 32 - (s : Int) := IntWalk.i64_in _ (by omega)
 have e5 : (0 : Int) ≤ 32 - (s : Int) := by omega
 obtain ⟨x, hx⟩ : ∃ x, l.getD o 0 = x := ⟨_, rfl⟩
 rw [hx] at HL hcl
 clear hn hc hm h hpo hs hcell hx
 go_enter Tryz.func360, Tryz.ntmps360
 go_wp2
 go_loopw [12] (fun i wr => ∃ (k : Nat), i = .int .i64 k ∧ k ≤ o ∧ Hid (∀ j, j < k → l.getD j 0 = 0) ∧ w = wr) (fun i _ => o - (intOf i).toNat)
 case atStart => exact ⟨0, rfl, Nat.zero_le _, Lh (fun j hj => by omega), rfl⟩
 case round =>
  obtain ⟨k, rfl, hk, HZ, rfl⟩ := hrel
  by_cases hlt : k < o
  ·have hck := HCELL.out k _ (getD_some (by rw [HN.out]; omega))
   obtain ⟨y, hy⟩ : ∃ y, l.getD k 0 = y := ⟨_, rfl⟩
   rw [hy] at hck
   have hkk : (k : Int) < (o : Int) := by omega
   by_cases h0 : y = 0
   ·subst h0
    have HZ2 := Lh (show ∀ j, j < k + 1 → l.getD j 0 = 0 from fun j hj => by
     rcases Nat.lt_or_ge j k with h1 | h1
     ·exact HZ.out j h1
     ·rw [show j = k by omega]; exact hy)
    clear hy
    go_wp2
    go_roundw
    case rel => exact ⟨k + 1, by go_num, by omega, HZ2, trivial⟩
    case measure => simp [intOf]; omega
   ·have HF := Lh (HE.out k hlt (by rw [hy]; exact h0))
    have hyn : ((y : Int) == 0) = false := by simp; omega
    have hyn2 : ¬ (y : Int) = 0 := by omega
    clear hy
    go_wp2
    go_ret
    exact ⟨Fs HF.out.symm, rfl⟩
  ·have hko : k = o := by omega
   subst hko
   have HF := Lh (HL.out HZ.out)
   clear hlt hk
   go_wp2
   go_ret
   exact ⟨Fs (by rw [HF.out, ← Aka]), rfl⟩

open Go.RowKit
def ShrQ (v q : Nat) (w : World) (e : Ending) (w' : World) : Prop :=
 ∃ A n c, e = .returned (.tuple #[.slice A n c, .bool (decide (v % 2 ^ q ≠ 0))]) ∧ n = (wds (v / 2 ^ q)).length ∧ n ≤ c ∧ RW w' w'.heap.size A (wds (v / 2 ^ q)) ∧ Below w.heap.size w w'
theorem ShrQ.same {v : Nat} {w w' : World} {A : Option Addr} {n c : Nat} (hn : n = (wds v).length) (hc : n ≤ c) (hr : RW w' w'.heap.size A (wds v)) (hb : Below w.heap.size w w') : ShrQ v 0 w (.returned (.tuple #[.slice A n c, .bool false])) w' :=
 ⟨A, n, c, by simp [Nat.mod_one], by simpa using hn, hc, by simpa using hr, hb⟩
theorem ShrQ.none {v q : Nat} {w w' : World} {b : Bool} (hv : v < 2 ^ q) (hb : b = decide (v ≠ 0)) (hw : Below w.heap.size w w') : ShrQ v q w (.returned (.tuple #[.slice none 0 0, .bool b])) w' :=
 ⟨Option.none, 0, 0, by rw [Nat.mod_eq_of_lt hv, hb], by rw [Nat.div_eq_of_lt hv]; rfl, Nat.le_refl _, by rw [Nat.div_eq_of_lt hv]; exact RW.nil _ _ _, hw⟩
theorem Adg (A : Option Addr) (n c : Nat) (p : Int) (l : List Nat) (w : World) (hn : l.length = n) (hc : n ≤ c) (hm : n ≤ 35184372087808) (h : RW w w.heap.size A l) (hp : p ≤ 0) :
  Cp 328 #[.slice A n c, .int .i64 p] w (ShrQ (val l) 0 w) := by
 have c1 := Av A n c l w.heap.size w hn hc (by omega) h
 have hle := Aw l
 obtain ⟨N, hN⟩ : ∃ N, (nrm l).length = N := ⟨_, rfl⟩
 rw [hN] at c1 hle
 have c2 := (S8 A N N (nrm l) w hN (Nat.le_refl _) (by omega) h.nrm).mono fun _ _ x => SlPost.of h.1.nrm.nrm x
 rw [Ev, Be h.1] at c2
 clear hn hc hm h hle hN
 go_enter Tryz.func328, Tryz.ntmps328
 go_wp2_with fail
 refine c1.mono ?_
 rintro e w1 ⟨rfl, rfl⟩
 go_wp2_with fail
 refine c2.mono ?_
 rintro e w1 ⟨v1, rfl, ⟨A1, d1, rfl, hd, hr⟩, hb⟩
 have HD := Lh hd
 have HR := Lh hr
 have HB := Lh hb
 clear hd hr hb
 go_wp2
 go_ret2
 exact ShrQ.same rfl HD.out HR.out HB.out
theorem Ac5 (A : Option Addr) (n c p : Nat) (l : List Nat) (w : World) (hn : l.length = n) (hc : n ≤ c) (hm : n ≤ 35184372087808) (h : RW w w.heap.size A l) (hp : 0 < p) (hf : btl (nrm l) ≤ p) :
  Cp 328 #[.slice A n c, .int .i64 p] w (ShrQ (val l) p w) := by
 have c1 := Av A n c l w.heap.size w hn hc (by omega) h
 have hle := Aw l
 have HV := Lh (show val l < 2 ^ p by
  by_cases h0 : nrm l = []
  ·rw [← Ar l, h0]; exact Nat.two_pow_pos p
  ·have := (Bc h.1.nrm (by rw [Ev]; exact h0)).2.1
   rw [Ar] at this
   exact Nat.lt_of_lt_of_le this (Nat.pow_le_pow_right (by omega) hf))
 have hz : (val l ≠ 0) ↔ 0 < (nrm l).length := by
  constructor
  ·intro a
   refine List.length_pos_iff.2 fun e => a ?_
   rw [← Ar l, e]; rfl
  ·intro a e
   rw [Cb e] at a
   exact absurd a (by simp)
 obtain ⟨N, hN⟩ : ∃ N, (nrm l).length = N := ⟨_, rfl⟩
 rw [hN] at c1 hle hz
 have HZ := Lh hz
 have c2 := Fj A N N (nrm l) w.heap.size w hN (Nat.le_refl _) (by omega) h.nrm
 have hp1 : ¬ (p : Int) ≤ 0 := by omega
 obtain ⟨t, ht⟩ : ∃ t, btl (nrm l) = t := ⟨_, rfl⟩
 rw [ht] at c2 hf
 have hf1 : (t : Int) ≤ (p : Int) := by omega
 clear hn hc hm h hle hN hz hp hf ht
 go_enter Tryz.func328, Tryz.ntmps328
 go_wp2_with fail
 refine c1.mono ?_
 rintro e w1 ⟨rfl, rfl⟩
 go_wp2_with fail
 refine c2.mono ?_
 rintro e w1 ⟨rfl, rfl⟩
 go_wp2
 go_ret2
 exact ShrQ.none HV.out (decide_eq_decide.2 HZ.out.symm) (Below.refl _ _)
theorem Agm (A : Option Addr) (n c p o s : Nat) (l : List Nat) (w : World) (hn : l.length = n) (hc : n ≤ c) (hm : n ≤ 35184372087808) (h : RW w w.heap.size A l) (hp : 0 < p) (hf : p < btl (nrm l)) (hpo : p = 32 * o + s) (hs : s < 32) :
  Cp 328 #[.slice A n c, .int .i64 p] w (ShrQ (val l) p w) := by
 have c1 := Av A n c l w.heap.size w hn hc (by omega) h
 have hle := Aw l
 have hbt := Af6 h.1.nrm
 rw [Ev] at hbt
 obtain ⟨N, hN⟩ : ∃ N, (nrm l).length = N := ⟨_, rfl⟩
 rw [hN] at c1 hle hbt
 have hoN : o < N := by omega
 obtain ⟨b, off, rfl, _, _⟩ := h.2 (by omega)
 have hA := h.nrm
 have c2 := Fj (some ⟨b, off, none⟩) N N (nrm l) w.heap.size w hN (Nat.le_refl _) (by omega) hA
 obtain ⟨a, ha⟩ : ∃ a, nrm l = a := ⟨_, rfl⟩
 rw [← Ar l]
 rw [ha] at c2 hN hA hf ⊢
 have hmk := run_make_row' (P := Tryz.prog) 180 156 (.int .u32 0) 4 Tryz.underlying180 Ei rfl .i64 .i64 (N - o) (by omega) (by omega) w
 rw [show ((N - o : Nat) : Int) = (N : Int) - (o : Int) by omega] at hmk
 have hrow := Row.made w (N - o)
 have hbl0 : Below w.heap.size w (w.alloc (.cells (madeCells #[.int .u32 0] (N - o)) 156)) := (Below.refl _ _).alloc (Nat.le_refl _) _
 have C4 := Lh (Ahy w.heap.size 0 (N - o) (N - o) s (List.replicate (N - o) 0) (some ⟨b, off + o, none⟩) (N - o) (N - o) (a.drop o) w.heap.size _ hrow (Ws.zeros _) (by rw [List.length_replicate]; omega) (by rw [List.length_drop, hN]) (by omega) (by omega) ((hA.drop o (by omega)).below hbl0) (Nat.le_refl _) hs)
 have C5 := Lh (fun (W2 : World) (hb : Below w.heap.size w W2) => Acr b off N N p o s a w.heap.size W2 hN (Nat.le_refl _) (by omega) (hA.below hb) hpo hs hoN)
 have C6 := Lh (fun (S : List Nat) (W2 : World) (hS : ShrP (List.replicate (N - o) 0) 0 (a.drop o) s (N - o) S) (hr : Row W2 w.heap.size S) =>
  show Cp 336 #[.slice (some ⟨w.heap.size, 0, none⟩) (N - o) (N - o)] W2 (fun e w' => e = .returned (.slice (some ⟨w.heap.size, 0, none⟩) (wds (val a / 2 ^ p)).length (wds (val a / 2 ^ p)).length) ∧ W2 = w') from by
   have hlen : S.length = N - o := by rw [hS.len, List.length_replicate]
   have hv : val S = val a / 2 ^ p := by
    have := hS.whole (by rw [List.length_drop, hN]; exact Nat.le_refl _)
    rw [List.drop_zero, List.take_of_length_le (by omega)] at this
    rw [this, hpo, J3 hA.1 o s (by omega)]
   have := Av (some ⟨w.heap.size, 0, none⟩) (N - o) (N - o) S (w.heap.size + 1) W2 hlen (Nat.le_refl _) (by omega) (hr.rw0 hS.ws)
   rw [Be hS.ws, hv] at this
   exact this)
 have C7 := Lh (fun (S : List Nat) (W2 : World) (hS : ShrP (List.replicate (N - o) 0) 0 (a.drop o) s (N - o) S) (hr : Row W2 w.heap.size S) =>
  show RW W2 W2.heap.size (some ⟨w.heap.size, 0, none⟩) (wds (val a / 2 ^ p)) from by
   have hlen : S.length = N - o := by rw [hS.len, List.length_replicate]
   have hv : val S = val a / 2 ^ p := by
    have := hS.whole (by rw [List.length_drop, hN]; exact Nat.le_refl _)
    rw [List.drop_zero, List.take_of_length_le (by omega)] at this
    rw [this, hpo, J3 hA.1 o s (by omega)]
   have := ((hr.rw0 hS.ws).nrm).more hr.lt
   rw [Be hS.ws, hv] at this
   exact this)
 obtain ⟨t, ht⟩ : ∃ t, btl a = t := ⟨_, rfl⟩
 rw [ht] at c2 hf
 obtain ⟨M, hM⟩ : ∃ M, (wds (val a / 2 ^ p)).length = M := ⟨_, rfl⟩
 rw [hM] at C6
 obtain ⟨lo, hlo⟩ : ∃ lo, decide (val a % 2 ^ p ≠ 0) = lo := ⟨_, rfl⟩
 rw [hlo] at C5
 have HM := Lh hM
 have HLO := Lh hlo
 have HBL := Lh hbl0
 have hp1 : ¬ (p : Int) ≤ 0 := by omega
 have hf1 : ¬ (t : Int) ≤ (p : Int) := by omega
 have hoN1 : (o : Int) < (N : Int) := by omega
 have hN1 : (N : Int) ≤ 35184372087808 := by omega
 have e3 : (p : Int) / 32 = (o : Int) := by omega
 have e4 : (p : Int) % 32 = (s : Int) := by omega
 clear hn hc hm h hle hN hp hf hpo hs hrow hbl0 hA ha hbt ht hM hlo
 go_enter Tryz.func328, Tryz.ntmps328
 go_wp2_with fail
 refine c1.mono ?_
 rintro e w1 ⟨rfl, rfl⟩
 go_wp2_with fail
 refine c2.mono ?_
 rintro e w1 ⟨rfl, rfl⟩
 clear c1 c2
 go_wp2_with fail
 refine C4.out.mono ?_
 rintro e w4 ⟨rfl, S, hS, hr, hb⟩
 have D6 := Lh (C6.out S w4 hS hr)
 have D7 := Lh (C7.out S w4 hS hr)
 have HB4 := Lh (HBL.out.trans hb)
 have D5 := Lh (C5.out w4 HB4.out)
 clear hS hr hb C4 C5 C6 C7
 go_wp2_with fail
 refine D6.out.mono ?_
 rintro e w5 ⟨rfl, rfl⟩
 go_wp2_with fail
 refine D5.out.mono ?_
 rintro e w5 ⟨rfl, rfl⟩
 go_wp2
 go_ret2
 exact ⟨some ⟨w.heap.size, 0, none⟩, M, M, by rw [HLO.out]; rfl, HM.out.symm, Nat.le_refl _, D7.out, HB4.out⟩

theorem Afa (v k : Nat) : decide (v % 2 ^ (k + 1) ≠ 0) = (decide (v % 2 ^ k ≠ 0) || decide (v / 2 ^ k % 2 = 1)) := by
 have h := Nat.mod_pow_succ (b := 2) (x := v) (k := k)
 have hp : 0 < 2 ^ k := Nat.two_pow_pos k
 rw [h, ← Bool.decide_or]
 refine decide_eq_decide.2 ?_
 have h2 : v / 2 ^ k % 2 = 0 ∨ v / 2 ^ k % 2 = 1 := by omega
 rcases h2 with h2 | h2
 ·rw [h2, Nat.mul_zero]; omega
 ·rw [h2, Nat.mul_one]; omega
theorem Afp {x q R : Nat} (hq : q % 2 = 0) : (x + q * R) % 2 = x % 2 := by
 obtain ⟨k, rfl⟩ : ∃ k, q = 2 * k := ⟨q / 2, by omega⟩
 rw [Nat.mul_assoc, Nat.add_mul_mod_self_left]
theorem M7 {l : List Nat} (h : Ws l) (j r : Nat) (hj : j ≤ l.length) (hr : r < 32) : val l / 2 ^ (32 * j + r) % 2 = l.getD j 0 / 2 ^ r % 2 := by
 rw [J3 h j r hj]
 have e : l.getD j 0 = (l.drop j).getD 0 0 := by rw [Cy, Nat.add_zero]
 rw [e]
 cases l.drop j with
 | nil => simp [val]
 | cons x t =>
  simp only [val, List.getD_cons_zero]
  rw [← Di (by omega : r ≤ 32), Nat.mul_assoc, Nat.add_mul_div_left _ _ (Nat.two_pow_pos r)]
  refine Afp ?_
  obtain ⟨k, hk⟩ : ∃ k, 32 - r = k + 1 := ⟨31 - r, by omega⟩
  rw [hk, Nat.pow_succ]; omega
theorem Abe (x y s : Nat) (hx : x < 4294967296) (hs : s < 32) : (x ||| y * 4294967296) = x + y * 4294967296 ∧ (x + y * 4294967296) / 2 ^ s % 4294967296 = y * 2 ^ (32 - s) % 4294967296 + x / 2 ^ s := by
 refine ⟨?_, ?_⟩
 ·have := Nat.two_pow_add_eq_or_of_lt (i := 32) hx y
  rw [Nat.or_comm, Nat.mul_comm y, show 4294967296 = 2 ^ 32 from rfl, ← this, Nat.add_comm]
 ·have h1 := St y x (32 - s) (by omega) hx
  rw [show 32 - (32 - s) = s by omega] at h1
  have h2 : (x + y * 4294967296) / 2 ^ s = x / 2 ^ s + y * 2 ^ (32 - s) := by
   rw [← Di (by omega : s ≤ 32), show y * (2 ^ s * 2 ^ (32 - s)) = 2 ^ s * (y * 2 ^ (32 - s)) by grind, Nat.add_mul_div_left _ _ (Nat.two_pow_pos s)]
  rw [h2]
  generalize y * 2 ^ (32 - s) = X at *
  generalize x / 2 ^ s = Z at *
  omega
structure RsT (d : List Nat) (s k : Nat) (S : List Nat) : Prop where
 len : S.length = k
 ws : Ws S
 sum : 2 ^ s * val S + d.getD 0 0 % 2 ^ s = val (d.take k) + 4294967296 ^ k * (d.getD k 0 % 2 ^ s)
theorem RsT.start (d : List Nat) (s : Nat) : RsT d s 0 [] := ⟨rfl, Ws.nil, by simp [val]⟩
theorem RsT.next {d : List Nat} {s k : Nat} {S : List Nat} (h : RsT d s k S) (hd : Ws d) (hs : s ≤ 32) : RsT d s (k + 1) (S ++ [Gk d s k]) := by
 obtain ⟨h1, h2, h4⟩ := h
 refine ⟨by rw [List.length_append, h1]; rfl, h2.append (Ws.cons (Zf hd s k hs) Ws.nil), ?_⟩
 rw [Fr, h1, Aq d k]
 have e := N6 d s k hs
 rw [Nat.pow_succ]
 generalize 4294967296 ^ k = K at *
 generalize Gk d s k = W at *
 have e2 : K * (2 ^ s * W + d.getD k 0 % 2 ^ s) = K * (d.getD k 0 + 4294967296 * (d.getD (k + 1) 0 % 2 ^ s)) := by rw [e]
 grind
theorem RsT.whole {d : List Nat} {s : Nat} {S : List Nat} (h : RsT d s d.length S) : val S = val d / 2 ^ s := by
 have h4 := h.sum
 have e : d.getD d.length 0 = 0 := by rw [List.getD_eq_getElem?_getD, List.getElem?_eq_none (Nat.le_refl _)]; rfl
 rw [e, Nat.zero_mod, Nat.mul_zero, Nat.add_zero, List.take_of_length_le (Nat.le_refl _)] at h4
 rw [← h4, Nat.add_comm, Nat.add_mul_div_left _ _ (Nat.two_pow_pos s), Nat.div_eq_of_lt (Nat.mod_lt _ (Nat.two_pow_pos s)), Nat.zero_add]

open Go.RowKit
theorem Sz (x r : Nat) (hx : x < 4294967296) : bits BinOp.and IntKind.u32 ((x : Int) / 2 ^ r) 1 = ((x / 2 ^ r % 2 : Nat) : Int) := by
 have h1 : x / 2 ^ r ≤ x := Nat.div_le_self _ _
 have e : ((x : Int) / 2 ^ r) = ((x / 2 ^ r : Nat) : Int) := by rw [Int.natCast_ediv, Int.natCast_pow]; rfl
 rw [e]
 obtain ⟨m, hm⟩ : ∃ m, x / 2 ^ r = m := ⟨_, rfl⟩
 rw [hm] at h1 ⊢
 show IntKind.u32.wrap ((BitVec.ofInt 32 (m : Int) &&& BitVec.ofInt 32 1).toNat : Int) = _
 have e1 : (BitVec.ofInt 32 1).toNat = 1 := by decide
 have e2 : (BitVec.ofInt 32 (m : Int)).toNat = m := by
  rw [BitVec.ofInt_natCast, BitVec.toNat_ofNat]; exact Nat.mod_eq_of_lt (by omega)
 rw [BitVec.toNat_and, e1, e2, Nat.and_one_is_mod, IntKind.wrap_u32]
 omega
theorem Agw (A : Option Addr) (n c : Nat) (p : Int) (l : List Nat) (w : World) (hn : l.length = n) (hc : n ≤ c) (hm : n ≤ 35184372087808) (h : RW w w.heap.size A l) (hp : p ≤ 0) :
  Cp 313 #[.slice A n c, .int .i64 p] w (ShrQ (val l) 0 w) := by
 have c1 := (Bs A n c l w.heap.size w hn hc (by omega) h).mono (fun e w' x => SlPost.of h.1.nrm x)
 rw [Be h.1] at c1
 clear hn hc hm h
 go_enter Tryz.func313, Tryz.ntmps313
 go_wp2_with fail
 refine c1.mono ?_
 rintro e w1 ⟨v1, rfl, ⟨A1, d1, rfl, hd, hr⟩, hb⟩
 have HD := Lh hd
 have HR := Lh hr
 have HB := Lh hb
 clear hd hr hb
 go_wp2
 go_ret2
 exact ShrQ.same rfl HD.out HR.out HB.out
theorem Adb (A : Option Addr) (n c p : Nat) (l : List Nat) (w : World) (hn : l.length = n) (hc : n ≤ c) (hm : n ≤ 35184372087808) (h : RW w w.heap.size A l) (hp : 0 < p) (hf : 32 * (nrm l).length ≤ p) :
  Cp 313 #[.slice A n c, .int .i64 p] w (ShrQ (val l) p w) := by
 have c1 := (Bs A n c l w.heap.size w hn hc (by omega) h).mono (fun e w' x => SlPost.of h.1.nrm x)
 have hle := Aw l
 have HV := Lh (show val l < 2 ^ p by
  have := Ed h.1.nrm
  rw [Ar, Ji] at this
  exact Nat.lt_of_lt_of_le this (Nat.pow_le_pow_right (by omega) hf))
 have hz : (val l ≠ 0) ↔ 0 < (nrm l).length := by
  constructor
  ·intro a
   refine List.length_pos_iff.2 fun e => a ?_
   rw [← Ar l, e]; rfl
  ·intro a e
   rw [Cb e] at a
   exact absurd a (by simp)
 obtain ⟨N, hN⟩ : ∃ N, (nrm l).length = N := ⟨_, rfl⟩
 rw [hN] at hle hz hf
 have HZ := Lh hz
 have HN := Lh hN
 have hp1 : ¬ (p : Int) ≤ 0 := by omega
 have hf1 : 32 * (N : Int) ≤ (p : Int) := by omega
 have k1 : IntKind.i64.wrap (32 * (N : Int)) = 32 * (N : Int) := IntWalk.i64_in _ (by omega)
 clear hn hc hm h hle hN hz hp hf
 go_enter Tryz.func313, Tryz.ntmps313
 go_wp2_with fail
 refine c1.mono ?_
 rintro e w1 ⟨v1, rfl, ⟨A1, d1, rfl, _, _⟩, hb⟩
 rw [HN.out]
 have HB := Lh hb
 clear hb
 go_wp2
 go_ret2
 exact ShrQ.none HV.out (decide_eq_decide.2 HZ.out.symm) HB.out
theorem Adk (A : Option Addr) (n c p o s : Nat) (l : List Nat) (w : World) (hn : l.length = n) (hc : n ≤ c) (hm : n ≤ 35184372087808) (h : RW w w.heap.size A l) (hp : 0 < p) (hf : p < 32 * (nrm l).length) (hpo : p = 32 * o + s) (hs : s < 32) :
  Cp 313 #[.slice A n c, .int .i64 p] w (ShrQ (val l) p w) := by
 obtain ⟨i0, hi, hz0, hz1, hz2⟩ := info_parts Ei
 have c1 := (Bs A n c l w.heap.size w hn hc (by omega) h).mono (fun e w' x => SlPost.of h.1.nrm x)
 have hle := Aw l
 rw [← Ar l]
 have hws := h.1.nrm
 obtain ⟨a, ha⟩ : ∃ a, nrm l = a := ⟨_, rfl⟩
 rw [ha] at c1 hle hf hws ⊢
 obtain ⟨N, hN⟩ : ∃ N, a.length = N := ⟨_, rfl⟩
 rw [hN] at hle hf
 have HN := Lh hN
 have HWS := Lh hws
 have HPO := Lh hpo
 have HS := Lh hs
 have HON := Lh (show o < N by omega)
 have hp1 : decide ((p : Int) ≤ 0) = false := decide_eq_false (by omega)
 have hp2 : decide (p = 0) = false := decide_eq_false (by omega)
 have hf1 : ¬ 32 * (N : Int) ≤ (p : Int) := by omega
 have hN1 : (N : Int) ≤ 35184372087808 := by omega
 have k1 : IntKind.i64.wrap (32 * (N : Int)) = 32 * (N : Int) := IntWalk.i64_in _ (by omega)
 have hpN : (p : Int) < 32 * (N : Int) := by omega
 have HD := Lh (show p / 32 = o ∧ p % 32 = s by omega)
 clear hn hc hm h hle hN hf hpo hs hws ha hp
 go_enter Tryz.func313, Tryz.ntmps313
 go_wp2_with fail
 refine c1.mono ?_
 rintro e w1 ⟨v1, rfl, ⟨A1, d1, rfl, hd1, hr1⟩, b1⟩
 rw [HN.out] at hd1 ⊢
 obtain ⟨b, off, rfl, hb, hcell⟩ := hr1.2 (by rw [HN.out]; have := HON.out; omega)
 have HCELL := Lh hcell
 have HR1 := Lh hr1
 have HB1 := Lh b1
 clear hcell hr1 b1 c1 hd1
 go_wp2
 go_loopw [6, 7] (fun lv i wr => ∃ (k : Nat), lv = .bool (decide (val a % 2 ^ k ≠ 0)) ∧ i = .int .i64 k ∧ k ≤ p ∧ w1 = wr) (fun _ i _ => p - (intOf i).toNat)
 case atStart => exact ⟨0, by simp [Nat.mod_one], rfl, Nat.zero_le _, rfl⟩
 case round =>
  obtain ⟨k, rfl, rfl, hk, rfl⟩ := hrel
  by_cases hlt : k < p
  ·obtain ⟨j, r, hjr, hr32⟩ : ∃ j r, k = 32 * j + r ∧ r < 32 := ⟨k / 32, k % 32, by omega, by omega⟩
   have hjN : j < N := by omega
   have hcl := HCELL.out j _ (getD_some (by rw [HN.out]; exact hjN))
   have hxl := HWS.out.getD j
   have HNX := Lh (Afa (val a) k)
   have hbw := M7 HWS.out j r (by rw [HN.out]; omega) hr32
   rw [← hjr] at hbw
   obtain ⟨x, hx⟩ : ∃ x, a.getD j 0 = x := ⟨_, rfl⟩
   rw [hx] at hcl hxl hbw
   have hba := Sz x r hxl
   rw [← hbw] at hba
   have hkk : (k : Int) < (p : Int) := by omega
   have e3 : (k : Int) / 32 = (j : Int) := by omega
   have e4 : (k : Int) % 32 = (r : Int) := by omega
   have hj1 : (j : Int) < (N : Int) := by omega
   have hr0 : (0 : Int) ≤ (r : Int) := by omega
   have hp63 : (p : Int) < 9223372036854775807 := by omega
   cases hlost : decide (val a % 2 ^ k ≠ 0)
   ·cases hbit : decide (val a / 2 ^ k % 2 = 1)
    ·have hT : (bits BinOp.and IntKind.u32 ((x : Int) / 2 ^ r) 1 == 1) = false := by
      rw [hba]; have h := of_decide_eq_false hbit; generalize val a / 2 ^ k % 2 = z at h ⊢; simp; omega
     rw [hlost, hbit] at HNX
     clear hbw hba hx hxl hjr hr32 hbit hlost hjN hk
     go_wp2
     go_roundw
     case rel => exact ⟨k + 1, by rw [HNX.out]; rfl, by go_num, by omega, trivial⟩
     case measure => simp [intOf]; omega
    ·have hT : (bits BinOp.and IntKind.u32 ((x : Int) / 2 ^ r) 1 == 1) = true := by
      rw [hba]; have h := of_decide_eq_true hbit; rw [h]; rfl
     rw [hlost, hbit] at HNX
     clear hbw hba hx hxl hjr hr32 hbit hlost hjN hk
     go_wp2
     go_roundw
     case rel => exact ⟨k + 1, by rw [HNX.out]; rfl, by go_num, by omega, trivial⟩
     case measure => simp [intOf]; omega
   ·rw [hlost, Bool.true_or] at HNX
    clear hbw hba hx hxl hjr hr32 hlost hjN hk
    go_wp2
    go_roundw
    case rel => exact ⟨k + 1, by rw [HNX.out], by go_num, by omega, trivial⟩
    case measure => simp [intOf]; omega
  ·have hkp : k = p := by omega
   subst hkp
   obtain ⟨lo, hlo⟩ : ∃ lo, decide (val a % 2 ^ k ≠ 0) = lo := ⟨_, rfl⟩
   rw [hlo]
   have HLO := Lh hlo
   have e3 : (k : Int) / 32 = (o : Int) := by have := HD.out; omega
   have e4 : (k : Int) % 32 = (s : Int) := by have := HD.out; omega
   have hs0 : (0 : Int) ≤ (s : Int) := by omega
   have hoN1 : (o : Int) < (N : Int) := by have := HON.out; omega
   have C1 := Lh (fun W (hb : Below w1.heap.size w1 W) i => Aj (some ⟨b, off, none⟩) N d1 i a w1.heap.size W HN.out (by omega) (HR1.out.below hb))
   have HSTART := Lh (RsT.start (a.drop o) s)
   clear hlo hlt hk
   go_wp2
   go_loopw [8, 9] (fun v i wr => ∃ (m : Nat) (S : List Nat), i = .int .i64 m ∧ o ≤ m ∧ m ≤ N ∧ Hid (OwnW w1.heap.size S v wr) ∧ Hid (RsT (a.drop o) s (m - o) S) ∧ Below w1.heap.size w1 wr) (fun _ i _ => N - (intOf i).toNat)
   case atStart => exact ⟨o, [], rfl, Nat.le_refl _, by omega, Lh (OwnW.nil _ _), by rw [Nat.sub_self]; exact HSTART, Below.refl _ _⟩
   case round =>
    obtain ⟨m, S, rfl, hom, hmN, HO, HT, hbw⟩ := hrel
    by_cases hlt : m < N
    ·have HSL := Lh (show (S.length + 1) * 4 ≤ 140737488355328 ∧ S.length + 1 ≤ maxLen by have := HT.out.len; unfold maxLen; omega)
     have D1 := Lh (C1.out wr hbw m)
     have D2 := Lh (C1.out wr hbw (m + 1))
     have HNX := Lh (HT.out.next (HWS.out.drop o) (by have := HS.out; omega))
     have HW := Lh (show Gk (a.drop o) s (m - o) = a.getD (m + 1) 0 * 2 ^ (32 - s) % 4294967296 + a.getD m 0 / 2 ^ s by
      unfold Gk; rw [Cy, Cy, show o + (m - o + 1) = m + 1 by omega, show o + (m - o) = m by omega])
     have hxl := HWS.out.getD m
     have hyl := HWS.out.getD (m + 1)
     obtain ⟨x, hx⟩ : ∃ x, a.getD m 0 = x := ⟨_, rfl⟩
     obtain ⟨y, hy⟩ : ∃ y, a.getD (m + 1) 0 = y := ⟨_, rfl⟩
     rw [hx] at D1 HW hxl
     rw [hy] at D2 HW hyl
     rw [show ((m + 1 : Nat) : Int) = (m : Int) + 1 by omega] at D2
     obtain ⟨f1, f2⟩ := Abe x y s hxl HS.out
     obtain ⟨u, hu⟩ : ∃ u, y * 4294967296 = u := ⟨_, rfl⟩
     have k2 : IntKind.u64.wrap ((y : Int) * 4294967296) = (u : Int) := by rw [IntWalk.u64_in _ (by omega)]; omega
     obtain ⟨t, ht⟩ : ∃ t, x + u = t := ⟨_, rfl⟩
     rw [hu, ht] at f1 f2
     have k3 : bits BinOp.or IntKind.u64 (x : Int) (u : Int) = (t : Int) := by rw [Gp x u (by omega) (by omega), f1]
     obtain ⟨z, hz⟩ : ∃ z, t / 2 ^ s = z := ⟨_, rfl⟩
     have k4 : ((t : Int) / 2 ^ s) = (z : Int) := by rw [← hz, Int.natCast_ediv, Int.natCast_pow]; rfl
     rw [hz] at f2
     have ew : Gk (a.drop o) s (m - o) = z % 4294967296 := by rw [HW.out, f2]
     rw [ew, show m - o + 1 = m + 1 - o by omega] at HNX
     have hmm : (m : Int) < (N : Int) := by omega
     clear hx hy hxl hyl f1 f2 hu ht hz ew HW C1
     go_wp2_with fail
     refine D1.out.mono ?_
     rintro e w2 ⟨rfl, rfl⟩
     go_wp2_with fail
     refine D2.out.mono ?_
     rintro e w2 ⟨rfl, rfl⟩
     go_wp2_with (at_builtin; refine wpList_append_own _ rfl _ _ 180 rfl w1.heap.size 156 i0 (.int .u32 0) 1 4 Tryz.underlying180 hi hz0 hz1 hz2 rfl (by decide) _ _ _ rfl (World.ownsRow.alloc (w := wr) HO.out _) ⟨wr.heap.size, 0, none⟩ 1 1 [.int .u32 ((z % 4294967296 : Nat) : Int)] rfl rfl ?c1 ?c2 ?c3 ?c4 ?c5 ?_)
     case c1 => exact (cell_one_new _ _ _)
     case c2 => simp [Value.oneCell']
     case c3 => exact HSL.out.2
     case c4 => exact HSL.out.1
     case c5 => have := hbw.size; simp; omega
     intro v' w2 hown hg _
     have HO2 := Lh (OwnW.snoc hown)
     have hbb : Below w1.heap.size w1 w2 := (hbw.alloc hbw.size _).grown hg (by have := hbw.size; simp; omega) (fun j hj => (World.ownsRow.lt HO.out j hj).1)
     clear hown hg
     go_wp2
     go_roundw
     case rel => exact ⟨m + 1, _, by go_num, by omega, by omega, HO2, HNX, hbb⟩
     case measure => simp [intOf]; omega
    ·have hmN2 : m = N := by omega
     subst hmN2
     have HT2 := Lh (show RsT (a.drop o) s (a.drop o).length S by rw [List.length_drop, HN.out]; exact HT.out)
     have hv := HT2.out.whole
     have HE2 := Lh (show nrm S = wds (val a / 2 ^ k) by rw [Be HT2.out.ws, hv, HPO.out, J3 HWS.out o s (by rw [HN.out]; exact hom)])
     have hSL := HT.out.len
     obtain ⟨A2, c2, hv2, hcc, hr2⟩ := HO.out.sl HT.out.ws
     obtain ⟨N2, hN2⟩ : ∃ N2, S.length = N2 := ⟨_, rfl⟩
     have C3 := Lh (Bs A2 N2 c2 S wr.heap.size wr hN2 (by rw [← hN2]; exact hcc) (by omega) hr2)
     rw [hN2] at hv2
     clear hr2 hcc hN2 hv hSL hlt hmN
     subst hv2
     go_wp2_with fail
     refine C3.out.mono ?_
     rintro e w3 ⟨v3, rfl, ho3, hb3⟩
     rw [HE2.out] at ho3
     obtain ⟨A3, c3, rfl, hc3, hr3⟩ := ho3.sl (Az _)
     have HR3 := Lh hr3
     have HC3 := Lh hc3
     have HB3 := Lh (Aa HB1.out (Aa hbw hb3))
     clear ho3 C3 hr3 hc3 hb3
     go_wp2
     go_ret2
     exact ⟨A3, _, c3, by rw [HLO.out]; rfl, rfl, HC3.out, HR3.out, HB3.out⟩
theorem Do (A : Option Addr) (n c : Nat) (p : Int) (l : List Nat) (w : World) (hn : l.length = n) (hc : n ≤ c) (hm : n ≤ 35184372087808) (h : RW w w.heap.size A l) :
  Cp 313 #[.slice A n c, .int .i64 p] w (ShrQ (val l) p.toNat w) := by
 by_cases hp : p ≤ 0
 ·rw [show p.toNat = 0 by omega]
  exact Agw A n c p l w hn hc hm h hp
 ·obtain ⟨q, rfl⟩ : ∃ q : Nat, p = (q : Int) := ⟨p.toNat, by omega⟩
  rw [Int.toNat_natCast]
  by_cases hf : 32 * (nrm l).length ≤ q
  ·exact Adb A n c q l w hn hc hm h (by omega) hf
  ·exact Adk A n c q (q / 32) (q % 32) l w hn hc hm h (by omega) (by omega) (by omega) (by omega)
theorem Agl (A : Option Addr) (n c : Nat) (p : Int) (l : List Nat) (w : World) (hn : l.length = n) (hc : n ≤ c) (hm : n ≤ 35184372087808) (h : RW w w.heap.size A l) :
  Cp 328 #[.slice A n c, .int .i64 p] w (ShrQ (val l) p.toNat w) := by
 by_cases hp : p ≤ 0
 ·rw [show p.toNat = 0 by omega]
  exact Adg A n c p l w hn hc hm h hp
 ·obtain ⟨q, rfl⟩ : ∃ q : Nat, p = (q : Int) := ⟨p.toNat, by omega⟩
  rw [Int.toNat_natCast]
  by_cases hf : btl (nrm l) ≤ q
  ·exact Ac5 A n c q l w hn hc hm h (by omega) hf
  ·exact Agm A n c q (q / 32) (q % 32) l w hn hc hm h (by omega) (by omega) (by omega) (by omega)

structure TakeT (R : List Nat) (o : Nat) (b : List Nat) (x k : Nat) (S : List Nat) (q : Nat) : Prop where
 len : S.length = R.length
 ws : Ws S
 far : ∀ j, j < o ∨ o + k ≤ j → S.getD j 0 = R.getD j 0
 sum : val ((S.drop o).take k) + x * val (b.take k) = val ((R.drop o).take k) + 4294967296 ^ k * q
 low : q < 4294967296
theorem TakeT.start {R : List Nat} (o : Nat) (b : List Nat) (x : Nat) (hR : Ws R) : TakeT R o b x 0 R 0 := ⟨rfl, hR, fun _ _ => rfl, by simp [val], by omega⟩
def I7 (b : List Nat) (x k q : Nat) : Nat := q + b.getD k 0 * x
def Rr (r t : Nat) : Nat := (r + 4294967296 * 2 - t % 4294967296 - 0) % 4294967296
def Sb (r t : Nat) : Nat := if r < t % 4294967296 + 0 then 1 else 0
theorem Zw {b : List Nat} {x k q : Nat} (hb : Ws b) (hx : x < 4294967296) (hq : q < 4294967296) : b.getD k 0 * x ≤ 18446744065119617025 ∧ I7 b x k q ≤ 18446744069414584320 := by
 have h1 := hb.getD k
 have h3 : b.getD k 0 * x ≤ 4294967295 * 4294967295 := Nat.mul_le_mul (by omega) (by omega)
 unfold I7
 omega
theorem Agp (r t : Nat) (hr : r < 4294967296) : Rr r t + t = r + 4294967296 * (t / 4294967296 + Sb r t) := by
 unfold Rr Sb
 split <;> omega
theorem Aaf (r t : Nat) (ht : t ≤ 18446744069414584320) : t / 4294967296 + Sb r t < 4294967296 := by
 unfold Sb
 split <;> omega
theorem TakeT.next {R : List Nat} {o : Nat} {b : List Nat} {x k : Nat} {S : List Nat} {q : Nat} (h : TakeT R o b x k S q) (hR : Ws R) (hb : Ws b) (hx : x < 4294967296) (ho : o + k < R.length) :
  S.getD (o + k) 0 = R.getD (o + k) 0 ∧ TakeT R o b x (k + 1) (S.set (o + k) (Rr (R.getD (o + k) 0) (I7 b x k q))) (I7 b x k q / 4294967296 + Sb (R.getD (o + k) 0) (I7 b x k q)) := by
 obtain ⟨h1, h2, h3, h4, h5⟩ := h
 have ht := (Zw (k := k) hb hx h5).2
 have hl := Aaf (R.getD (o + k) 0) _ ht
 have hs := Agp (R.getD (o + k) 0) (I7 b x k q) (hR.getD _)
 have hc : I7 b x k q = q + b.getD k 0 * x := rfl
 refine ⟨h3 _ (.inr (Nat.le_refl _)), by rw [List.length_set]; exact h1, h2.set (by unfold Rr; omega), fun j hj => ?_, ?_, hl⟩
 ·rw [Ao (by omega), h3 j (by omega)]
 ·rw [Ax _ o k (by rw [List.length_set]; omega), Ax R o k ho, Aq b k, Bp (by omega)]
  rw [Ep (l := S.set (o + k) (Rr (R.getD (o + k) 0) (I7 b x k q))) (m := S) o k (by rw [List.length_set]; omega) (by omega) (fun j _ hj => Ao (by omega))]
  rw [Nat.pow_succ]
  generalize Rr (R.getD (o + k) 0) (I7 b x k q) = W at *
  generalize I7 b x k q / 4294967296 + Sb (R.getD (o + k) 0) (I7 b x k q) = Q at *
  generalize 4294967296 ^ k = K at *
  generalize I7 b x k q = t at *
  generalize R.getD (o + k) 0 = r at *
  have e : K * (W + t) = K * (r + 4294967296 * Q) := by rw [hs]
  rw [hc] at e
  grind
structure StepT (R : List Nat) (o : Nat) (b : List Nat) (S : List Nat) (often below : Nat) : Prop where
 len : S.length = R.length
 ws : Ws S
 far : ∀ j, j < o ∨ o + (b.length + 1) ≤ j → S.getD j 0 = R.getD j 0
 sum : val ((S.drop o).take (b.length + 1)) + often * val b = val ((R.drop o).take (b.length + 1)) + 4294967296 ^ (b.length + 1) * below
 high : val ((R.drop o).take (b.length + 1)) / val b ≤ often
 low : below ≤ 1
 word : often < 4294967296
theorem TakeT.step {R : List Nat} {o : Nat} {b : List Nat} {x : Nat} {S : List Nat} {q : Nat} (h : TakeT R o b x b.length S q) (ho : o + b.length < R.length) (hR : Ws R) (hx : x < 4294967296)
  (hq : val ((R.drop o).take (b.length + 1)) / val b ≤ x) :
  S.getD (o + b.length) 0 = R.getD (o + b.length) 0 ∧
  StepT R o b (S.set (o + b.length) ((R.getD (o + b.length) 0 + 4294967296 * 2 - q - 0) % 4294967296)) x (if R.getD (o + b.length) 0 < q + 0 then 1 else 0) := by
 obtain ⟨h1, h2, h3, h4, h5⟩ := h
 refine ⟨h3 _ (.inr (Nat.le_refl _)), by rw [List.length_set]; exact h1, h2.set (by omega), fun j hj => ?_, ?_, hq, by split <;> omega, hx⟩
 ·rw [Ao (by omega), h3 j (by omega)]
 ·rw [Ax _ o _ (by rw [List.length_set]; omega), Ax R o _ ho, Bp (by omega)]
  rw [Ep (l := S.set (o + b.length) _) (m := S) o b.length (by rw [List.length_set]; omega) (by omega) (fun j _ hj => Ao (by omega))]
  rw [List.take_of_length_le (Nat.le_refl b.length)] at h4
  have hr := hR.getD (o + b.length)
  generalize R.getD (o + b.length) 0 = r at *
  have key : (r + 4294967296 * 2 - q - 0) % 4294967296 + q = r + 4294967296 * (if r < q + 0 then 1 else 0) := by split <;> omega
  generalize (r + 4294967296 * 2 - q - 0) % 4294967296 = W at *
  generalize (if r < q + 0 then 1 else 0) = c at *
  rw [Nat.pow_succ]
  generalize 4294967296 ^ b.length = K at *
  have e : K * (W + q) = K * (r + 4294967296 * c) := by rw [key]
  grind
theorem StepT.fin {R : List Nat} {o : Nat} {b : List Nat} {S : List Nat} {often : Nat} (h : StepT R o b S often 0) (hb : 0 < val b) :
  often = val ((R.drop o).take (b.length + 1)) / val b ∧ val ((S.drop o).take (b.length + 1)) = val ((R.drop o).take (b.length + 1)) % val b := by
 obtain ⟨h1, h2, h3, h4, h5, _, _⟩ := h
 rw [Nat.mul_zero, Nat.add_zero] at h4
 generalize val ((R.drop o).take (b.length + 1)) = P at *
 generalize val ((S.drop o).take (b.length + 1)) = s at *
 generalize val b = D at *
 have e1 : often ≤ P / D := by rw [Nat.le_div_iff_mul_le hb]; omega
 have e2 : often = P / D := by omega
 refine ⟨e2, ?_⟩
 have e3 := Nat.div_add_mod P D
 rw [← e2, Nat.mul_comm] at e3
 omega
theorem StepT.more {R : List Nat} {o : Nat} {b : List Nat} {S : List Nat} {often : Nat} (h : StepT R o b S often 1) (hb : 0 < val b) (ho : o + b.length < R.length) :
  0 < often ∧ val ((R.drop o).take (b.length + 1)) / val b < often := by
 obtain ⟨h1, h2, h3, h4, h5, _, _⟩ := h
 have hl := Ed ((h2.drop o).take (b.length + 1))
 rw [List.length_take, List.length_drop, Nat.min_eq_left (by omega)] at hl
 generalize val ((R.drop o).take (b.length + 1)) = P at *
 generalize val ((S.drop o).take (b.length + 1)) = s at *
 generalize val b = D at *
 have e : P / D < often := by rw [Nat.div_lt_iff_lt_mul hb]; omega
 exact ⟨Nat.lt_of_le_of_lt (Nat.zero_le _) e, e⟩
theorem StepT.back {R : List Nat} {o : Nat} {b : List Nat} {S : List Nat} {often : Nat} {T : List Nat} {q : Nat} (h : StepT R o b S often 1) (hb : 0 < val b) (ho : o + b.length < R.length)
  (hT : AddT S o b 1 b.length T q) :
  T.getD (o + b.length) 0 = S.getD (o + b.length) 0 ∧ (S.getD (o + b.length) 0 + q + 0) / 4294967296 ≤ 1 ∧
  StepT R o b (T.set (o + b.length) ((S.getD (o + b.length) 0 + q + 0) % 4294967296)) (often - 1) (1 - (S.getD (o + b.length) 0 + q + 0) / 4294967296) := by
 obtain ⟨m1, m2⟩ := h.more hb ho
 obtain ⟨h1, h2, h3, h4, h5, h6, h7⟩ := h
 obtain ⟨g1, g2, g3, g4, g5⟩ := hT
 have hs := h2.getD (o + b.length)
 refine ⟨g3 _ (.inr (Nat.le_refl _)), by omega, by rw [List.length_set]; omega, g2.set (by omega), fun j hj => ?_, ?_, by omega, by omega, by omega⟩
 ·rw [Ao (by omega), g3 j (by omega), h3 j (by omega)]
 ·rw [Ax _ o _ (by rw [List.length_set]; omega), Bp (by omega)]
  rw [Ep (l := T.set (o + b.length) _) (m := T) o b.length (by rw [List.length_set]; omega) (by omega) (fun j _ hj => Ao (by omega))]
  rw [Ax S o _ (by omega)] at h4
  rw [List.take_of_length_le (Nat.le_refl b.length)] at g4
  obtain ⟨k, rfl⟩ : ∃ k, often = k + 1 := ⟨often - 1, by omega⟩
  have hc : (S.getD (o + b.length) 0 + q + 0) / 4294967296 ≤ 1 := by omega
  generalize S.getD (o + b.length) 0 = r at *
  obtain ⟨c, hcc⟩ : ∃ c, (r + q + 0) / 4294967296 = c := ⟨_, rfl⟩
  obtain ⟨W, hW⟩ : ∃ W, (r + q + 0) % 4294967296 = W := ⟨_, rfl⟩
  have key : W + 4294967296 * c = r + q := by omega
  rw [hcc] at hc ⊢
  rw [hW]
  rw [Nat.pow_succ] at h4 ⊢
  generalize 4294967296 ^ b.length = K at *
  have e : K * (W + 4294967296 * c) = K * (r + q) := by rw [key]
  rw [Nat.add_sub_cancel]
  obtain ⟨d, hd⟩ : ∃ d, 1 - c = d := ⟨_, rfl⟩
  have hcd : c + d = 1 := by omega
  rw [hd]
  have e2 : K * 4294967296 * (c + d) = K * 4294967296 * 1 := by rw [hcd]
  grind
theorem Aal {P D h1 h0 t K p' d' : Nat} (hP : P = p' + K * (h0 + 4294967296 * h1)) (hp : p' < K) (hD : D = d' + K * t) (ht : 0 < t) : P / D ≤ (h1 * 4294967296 + h0) / t := by
 rcases Nat.eq_zero_or_pos K with hK | hK
 ·omega
 rw [Nat.le_div_iff_mul_le ht]
 have e1 : P / D * D ≤ P := Nat.div_mul_le_self P D
 generalize P / D = q at *
 have e2 : q * D = q * d' + K * (q * t) := by rw [hD]; grind
 have e3 : K * (q * t) < K * (h0 + 4294967296 * h1 + 1) := by rw [Nat.mul_add K, Nat.mul_one]; omega
 have := Nat.lt_of_mul_lt_mul_left e3
 omega

open Go.RowKit
theorem Mp (n : Nat) (h : n < 4294967296) : n.testBit 31 = decide (2147483648 ≤ n) := by
 rw [Nat.testBit_eq_decide_div_mod_eq]
 exact decide_eq_decide.2 (by rw [show 2 ^ 31 = 2147483648 from rfl]; omega)
theorem Ahi (n : Nat) (h : n < 4294967296) : n / 2147483648 = if n.testBit 31 = true then 1 else 0 := by
 rw [Mp n h]
 by_cases h1 : 2147483648 ≤ n
 ·rw [if_pos (by simpa using h1)]; omega
 ·rw [if_neg (by simpa using h1)]; omega
theorem Ud (x y c D : Nat) (hx : x < 4294967296) (hy : y < 4294967296) (hc : c ≤ 1) (hD : (x + 4294967296 * 2 - y - c) % 4294967296 = D) :
  bits BinOp.or IntKind.u32 (bits BinOp.and IntKind.u32 (bits BinOp.xor IntKind.u32 IntKind.u32.max (x : Int)) (y : Int)) (bits BinOp.and IntKind.u32 (bits BinOp.xor IntKind.u32 IntKind.u32.max (bits BinOp.xor IntKind.u32 (x : Int) (y : Int))) (D : Int)) / 2147483648 = ((if x < y + c then 1 else 0 : Nat) : Int) := by
 have hD2 : D < 4294967296 := by omega
 have hm : IntKind.u32.max = ((4294967295 : Nat) : Int) := rfl
 have p32 : (4294967296 : Nat) = 2 ^ 32 := rfl
 have a1 : 4294967295 ^^^ x < 4294967296 := by rw [p32]; exact Nat.xor_lt_two_pow (by omega) (by omega)
 have a2 : x ^^^ y < 4294967296 := by rw [p32]; exact Nat.xor_lt_two_pow (by omega) (by omega)
 have a3 : 4294967295 ^^^ (x ^^^ y) < 4294967296 := by rw [p32]; exact Nat.xor_lt_two_pow (by omega) (by omega)
 have a4 : (4294967295 ^^^ x) &&& y < 4294967296 := Nat.lt_of_le_of_lt Nat.and_le_right hy
 have a5 : (4294967295 ^^^ (x ^^^ y)) &&& D < 4294967296 := Nat.lt_of_le_of_lt Nat.and_le_right hD2
 have a6 : ((4294967295 ^^^ x) &&& y) ||| ((4294967295 ^^^ (x ^^^ y)) &&& D) < 4294967296 := by rw [p32] at *; exact Nat.or_lt_two_pow a4 a5
 rw [hm, u32_xor_nat _ _ (by omega) hx, u32_xor_nat _ _ hx hy, u32_xor_nat _ _ (by omega) a2, u32_and_nat _ _ a1 hy, u32_and_nat _ _ a3 hD2, u32_or_nat _ _ a4 a5]
 obtain ⟨n, hn⟩ : ∃ n, ((4294967295 ^^^ x) &&& y) ||| ((4294967295 ^^^ (x ^^^ y)) &&& D) = n := ⟨_, rfl⟩
 have hb : n.testBit 31 = ((!decide (2147483648 ≤ x) && decide (2147483648 ≤ y)) || ((decide (2147483648 ≤ x) == decide (2147483648 ≤ y)) && decide (2147483648 ≤ D))) := by
  rw [← hn, Nat.testBit_or, Nat.testBit_and, Nat.testBit_and, Nat.testBit_xor, Nat.testBit_xor, Nat.testBit_xor, Mp x hx, Mp y hy, Mp D hD2, show Nat.testBit 4294967295 31 = true by decide]
  cases decide (2147483648 ≤ x) <;> cases decide (2147483648 ≤ y) <;> cases decide (2147483648 ≤ D) <;> rfl
 rw [hn] at a6 ⊢
 have h2 := Ahi n a6
 have h3 : ((n : Nat) : Int) / 2147483648 = ((n / 2147483648 : Nat) : Int) := by omega
 rw [h3, h2, hb]
 clear hb h2 h3 a1 a2 a3 a4 a5 a6 hm p32 hn
 by_cases b1 : 2147483648 ≤ x <;> by_cases b2 : 2147483648 ≤ y <;> by_cases b3 : 2147483648 ≤ D <;> by_cases b4 : x < y + c <;> simp [b1, b2, b3, b4] <;> omega
theorem Afe {a b c d : Int} (h : a = c) (g : b = d) : Ending.returned (.tuple #[.int .u32 a, .int .u32 b]) = .returned (.tuple #[.int .u32 c, .int .u32 d]) := by rw [h, g]
theorem Pk (x y c : Nat) (w : World) (hx : x < 4294967296) (hy : y < 4294967296) (hc : c ≤ 1) :
  Cq 392 #[.int .u32 x, .int .u32 y, .int .u32 c] (.tuple #[.int .u32 ((x + 4294967296 * 2 - y - c) % 4294967296 : Nat), .int .u32 ((if x < y + c then 1 else 0 : Nat) : Int)]) w := by
 obtain ⟨D, hD⟩ : ∃ D : Nat, (x + 4294967296 * 2 - y - c) % 4294967296 = D := ⟨_, rfl⟩
 have hb := Ud x y c D hx hy hc hD
 obtain ⟨r, hr⟩ : ∃ r : Nat, (if x < y + c then 1 else 0 : Nat) = r := ⟨_, rfl⟩
 rw [hr] at hb
 rw [hD, hr]
 have hd : ((x : Int) - (y : Int) - (c : Int)) % 4294967296 = (D : Int) := by omega
 have hsg : IntKind.u32.signed = false := rfl
 have HB := Lh hb
 clear hx hy hc hD hr hb
 go_enter Tryz.func392, Tryz.ntmps392
 go_wp2
 go_ret2
 exact ⟨Afe (by omega) HB.out, rfl⟩

open Go.RowKit
theorem Ae2 (g n c d s : Nat) (R : List Nat) (w : World) (hR : Row w g R) (hRw : Ws R) (hl : R.length = n) (hn : n ≤ 4096) (hs : s < 32) :
  Cp 359 #[.slice (some ⟨g, 0, none⟩) n c, .slice (some ⟨g, 0, none⟩) n d, .int .i64 s] w (fun e w' => e = .returned (.tuple #[]) ∧ ∃ S, ShrP R 0 R s n S ∧ Row w' g S ∧ Only g w w') := by
 have hn1 : (n : Int) ≤ 4096 := by omega
 have hs1 : (s : Int) < 32 := by omega
 have hs0 : (0 : Int) ≤ (s : Int) := by omega
 have HL := Lh hl
 have HRW := Lh hRw
 have HR := Lh hR
 have HSTART := Lh (ShrP.start 0 R s hRw)
 clear hR hRw hl
 go_enter Tryz.func359, Tryz.ntmps359
 go_wp2
 go_loopw [9] (fun i wr => ∃ (k : Nat) (S : List Nat), i = .int .i64 k ∧ k ≤ n ∧ Hid (Row wr g S) ∧ Hid (ShrP R 0 R s k S) ∧ Only g w wr) (fun i _ => n - (intOf i).toNat)
 case atStart => exact ⟨0, R, rfl, Nat.zero_le _, HR, HSTART, Only.refl _ _⟩
 case round =>
  obtain ⟨k, S, rfl, hk, HRS, HS, hbw⟩ := hrel
  by_cases hlt : k < n
  ·have hSl : S.length = n := by rw [HS.out.len, HL.out]
   have hS := HRS.out.cell k (by omega)
   have hfz := HRS.out.frozen k
   have HNX := Lh (HS.out.next HRW.out (by omega) (by rw [HL.out]; omega))
   have HROW := Lh (HRS.out.set k (Gk R s k))
   have hgg := HRS.out.lt
   have HRR := Lh (fun W (hW : Below (g + 1) wr W) => show RW W (g + 1) (some ⟨g, 0, none⟩) S from (HRS.out.rw0 HS.out.ws).below hW)
   have HF := Lh HS.out.far
   have C1 := Lh (fun W (hW : Below (g + 1) wr W) => show Cp 329 #[.slice (some ⟨g, 0, none⟩) n d, .int .i64 k] W fun e w' => e = .returned (.int .u32 (R.getD k 0 : Nat)) ∧ W = w' from by
    have := Ez (some ⟨g, 0, none⟩) n d k S (g + 1) W hSl (by omega) (HRR.out W hW)
    rw [HF.out k (by omega)] at this; exact this)
   have C2 := Lh (fun W (hW : Below (g + 1) wr W) => show Cp 329 #[.slice (some ⟨g, 0, none⟩) n d, .int .i64 ((k + 1 : Nat) : Int)] W fun e w' => e = .returned (.int .u32 (R.getD (k + 1) 0 : Nat)) ∧ W = w' from by
    have := Ez (some ⟨g, 0, none⟩) n d (k + 1) S (g + 1) W hSl (by omega) (HRR.out W hW)
    rw [HF.out (k + 1) (by omega)] at this; exact this)
   have hbd := Ac (Below.refl (g + 1) wr) 1
   have HBS := Lh (show Only g w (wr.setCell ⟨g, k, none⟩ (.int .u32 (Gk R s k : Nat))) from hbw.setCell _)
   obtain ⟨x, hx⟩ : ∃ x, R.getD k 0 = x := ⟨_, rfl⟩
   rw [hx] at C1
   obtain ⟨y, hy⟩ : ∃ y, R.getD (k + 1) 0 = y := ⟨_, rfl⟩
   rw [hy] at C2
   rw [show ((k + 1 : Nat) : Int) = (k : Int) + 1 by omega] at C2
   have HW := Lh (show ((Gk R s k : Nat) : Int) = bits BinOp.or IntKind.u32 ((x : Int) / 2 ^ s) ((y : Int) * 2 ^ (32 - s) % 4294967296) by
    rw [Ad7 x y s (by omega) (by rw [← hx]; exact HRW.out.getD k)]
    unfold Gk; rw [hx, hy])
   have hkk : (k : Int) < (n : Int) := by omega
   have e1 : IntKind.i64.wrap ((k : Int) + 1) = (k : Int) + 1 := IntWalk.i64_in _ (by omega)
   have e2 : IntKind.i64.wrap (32 - (s : Int)) = 32 - (s : Int) := IntWalk.i64_in _ (by omega)
   have e3 : (0 : Int) ≤ 32 - (s : Int) := by omega
   rw [Nat.zero_add] at HNX
   clear hx hy hk hSl hgg
   go_wp2
   go_region_with (first
      | (go_at_call 329; (with_reducible refine (C1.out _ ?_).mono ?_); exact hbd; rintro e w' ⟨rfl, rfl⟩)
      | (go_at_call 329; (with_reducible refine (C2.out _ ?_).mono ?_); exact hbd; rintro e w' ⟨rfl, rfl⟩))
   all_goals
    go_wp2_with fail
    rw [← HW.out]
    exact ⟨⟨k + 1, _, by go_num, hlt, HROW, HNX, HBS.out.drewN 1⟩, by simp [intOf]; omega⟩
  ·have hkn : k = n := by omega
   subst hkn
   clear hlt
   go_wp2
   go_end0
   exact ⟨rfl, S, HS.out, HRS.out, hbw⟩

open Go.RowKit
open Go.RowKit
theorem Aaw (x y r : Nat) (hx : x < 4294967296) (hy : y < 4294967296) (hr : r ≤ 1) :
  (((x : Int) - (y : Int) - (r : Int)) % 18446744073709551616) % 4294967296 = (((x + 4294967296 * 2 - y - r) % 4294967296 : Nat) : Int) ∧ (((x : Int) - (y : Int) - (r : Int)) % 18446744073709551616) / 9223372036854775808 = ((if x < y + r then 1 else 0 : Nat) : Int) := by
 constructor
 ·omega
 ·split <;> omega
open Go.RowKit
theorem OwnW.low {B C : Nat} {l : List Nat} {v : Value} {w : World} (h : OwnW C l v w) (hB : B ≤ C) : OwnW B l v w :=
 ⟨h.1, h.2.imp id (fun ⟨g, cap, cur, e, h1, r⟩ => ⟨g, cap, cur, e, Nat.le_trans hB h1, r⟩)⟩
def Aiw (l : List Nat) (n : Nat) (w : World) (e : Ending) (w' : World) : Prop := ∃ A c, e = .returned (.slice A n c) ∧ (n ≤ c ∧ RW w' w'.heap.size A l ∧ ∀ ad, A = some ad → w.heap.size ≤ ad.block) ∧ Below w.heap.size w w'
theorem OwnPost.toldN {l : List Nat} {n : Nat} {w : World} {e : Ending} {w' : World} (hw : Ws l) (h : OwnPost l w e w') (hn : l.length = n) : Aiw l n w e w' := by
 obtain ⟨v, rfl, ho, hb⟩ := h
 obtain ⟨A, c, hv, hc, hr⟩ := ho.sl hw
 subst hv
 refine ⟨A, c, by rw [hn], ⟨by omega, hr, fun ad had => ?_⟩, hb⟩
 subst had
 rcases ho.2 with ⟨e, _⟩ | ⟨g, cap, cur, e, hB, _⟩
 ·cases e
 ·cases e; exact hB
theorem RW.other {w : World} {B g j : Nat} {A : Option Addr} {l : List Nat} (h : RW w B A l) (hA : ∀ ad, A = some ad → g < ad.block) (v : Value) : RW (w.setCell ⟨g, j, none⟩ v) B A l := ⟨h.1, fun hl => by
 obtain ⟨b, off, e, hb, hc⟩ := h.2 hl
 have hg : g < b := hA _ e
 refine ⟨b, off, e, hb, fun k u hu => ?_⟩
 rw [← hc k u hu]
 have := Below.heap_setCell w ⟨g, j, none⟩ v b (by simp; omega)
 simp [World.cell?, this]⟩
theorem Afl (A C : Option Addr) (n c m d : Nat) (l k : List Nat) (w : World) (hn : l.length = n) (hm : n ≤ 35184372087808) (h : RW w w.heap.size A l)
  (gn : k.length = m) (gm : m ≤ n) (g : RW w w.heap.size C k) (hle : val k ≤ val l) :
  Cp 347 #[.slice A n c, .slice C m d] w (OwnPost (wds (val l - val k)) w) := by
 obtain ⟨i0, hi, hz0, hz1, hz2⟩ := info_parts Ei
 have C1 := Lh (fun W (hb : Below w.heap.size w W) i => Aj A n c i l w.heap.size W hn (by omega) (h.below hb))
 have C2 := Lh (fun W (hb : Below w.heap.size w W) i => Aj C m d i k w.heap.size W gn (by omega) (g.below hb))
 have HL := Lh h.1
 have HK := Lh g.1
 have HN := Lh hn
 have HM := Lh gn
 have HLE := Lh hle
 have HMN := Lh gm
 have hn1 : (n : Int) ≤ 35184372087808 := by omega
 clear hn hm h gn gm g hle
 go_enter Tryz.func347, Tryz.ntmps347
 go_wp2
 go_loopw [5, 6, 7] (fun v cv i wr => ∃ (q : Nat) (S : List Nat) (r : Nat), i = .int .i64 q ∧ cv = .int .u64 (r : Nat) ∧ q ≤ n ∧ Hid (OwnW w.heap.size S v wr) ∧ Hid (SubT l k q S r) ∧ Hid (S.length = q) ∧ Below w.heap.size w wr) (fun _ _ i _ => n - (intOf i).toNat)
 case atStart => exact ⟨0, [], 0, rfl, rfl, Nat.zero_le _, Lh (OwnW.nil _ _), Lh (SubT.start l k [] Ws.nil), Lh rfl, Below.refl _ _⟩
 case round =>
  obtain ⟨q, S, r, rfl, rfl, hq, HO, HT, HSL, hbw⟩ := hrel
  by_cases hlt : q < n
  ·have hx := HL.out.getD q
   have hy := HK.out.getD q
   have hr := HT.out.low
   have hsl : S.length = q := HSL.out
   have D1 := Lh (C1.out wr hbw q)
   have D2 := Lh (C2.out wr hbw q)
   obtain ⟨e1, e2⟩ := Aaw (l.getD q 0) (k.getD q 0) r hx hy hr
   obtain ⟨t, ht⟩ : ∃ t, Aav l k q r = t := ⟨_, rfl⟩
   obtain ⟨r2, hr2⟩ : ∃ r2, Acf l k q r = r2 := ⟨_, rfl⟩
   have htl : t < 4294967296 := by rw [← ht]; unfold Aav; omega
   rw [show (l.getD q 0 + 4294967296 * 2 - k.getD q 0 - r) % 4294967296 = t from ht] at e1
   rw [show (if l.getD q 0 < k.getD q 0 + r then 1 else 0) = r2 from hr2] at e2
   have HNX := Lh (show SubT l k (q + 1) (S ++ [t]) r2 by
    rw [← hr2]
    refine HT.out.next HL.out HK.out (HT.out.ws.append (Ws.cons htl Ws.nil)) ?_ ?_
    ·rw [List.take_append_of_le_length (by omega)]
    ·rw [ht, List.getD_eq_getElem?_getD, List.getElem?_append_right (by omega), hsl]; simp)
   obtain ⟨x, hxe⟩ : ∃ x, l.getD q 0 = x := ⟨_, rfl⟩
   obtain ⟨y, hye⟩ : ∃ y, k.getD q 0 = y := ⟨_, rfl⟩
   rw [hxe] at D1 hx e1 e2
   rw [hye] at D2 hy e1 e2
   obtain ⟨z, hz⟩ : ∃ z : Int, ((x : Int) - (y : Int) - (r : Int)) % 18446744073709551616 = z := ⟨_, rfl⟩
   rw [hz] at e1 e2
   have hz2' : IntKind.u64.wrap (IntKind.u64.wrap ((x : Int) - (y : Int)) - (r : Int)) = z := by rw [IntKind.wrap_u64, IntKind.wrap_u64]; omega
   have HSL2 := Lh (show (S.length + 1) * 4 ≤ 140737488355328 ∧ S.length + 1 ≤ maxLen by unfold maxLen; omega)
   have HSL3 := Lh (show (S ++ [t]).length = q + 1 by rw [List.length_append, hsl]; rfl)
   have hq1 : (q : Int) < (n : Int) := by omega
   have hzb : 0 ≤ z := by omega
   clear hx hy hr ht hr2 htl hxe hye hsl hz
   go_wp2_with fail
   refine D1.out.mono ?_
   rintro e w1 ⟨rfl, rfl⟩
   go_wp2_with fail
   refine D2.out.mono ?_
   rintro e w1 ⟨rfl, rfl⟩
   go_wp2_with (at_builtin; refine wpList_append_own _ rfl _ _ 180 rfl w.heap.size 156 i0 (.int .u32 0) 1 4 Tryz.underlying180 hi hz0 hz1 hz2 rfl (by decide) _ _ _ rfl (World.ownsRow.alloc (w := wr) HO.out _) ⟨wr.heap.size, 0, none⟩ 1 1 [.int .u32 (t : Nat)] rfl rfl ?c1 ?c2 ?c3 ?c4 ?c5 ?_)
   case c1 => exact (cell_one_new _ _ _)
   case c2 => simp [Value.oneCell']
   case c3 => exact HSL2.out.2
   case c4 => exact HSL2.out.1
   case c5 => have := hbw.size; simp; omega
   intro v' w2 hown hg _
   have HO2 := Lh (OwnW.snoc hown)
   have hbb : Below w.heap.size w w2 := (hbw.alloc hbw.size _).grown hg (by have := hbw.size; simp; omega) (fun j hj => (World.ownsRow.lt HO.out j hj).1)
   clear hown hg
   go_wp2
   go_roundw
   case rel => exact ⟨q + 1, _, r2, by go_num, rfl, by omega, HO2, HNX, HSL3, hbb⟩
   case measure => simp [intOf]; omega
  ·have hqn : q = n := by omega
   have hsl : S.length = n := by rw [← hqn]; exact HSL.out
   have hv := (hqn ▸ HT.out : SubT l k n S r).whole (by rw [HN.out]; exact Nat.le_refl _) (by rw [HM.out]; exact HMN.out) hsl HLE.out
   have HE2 := Lh (show nrm S = wds (val l - val k) by rw [Be HT.out.ws, hv])
   have hq1 : ¬ (q : Int) < (n : Int) := by omega
   have ho := HO.out
   obtain ⟨A2, c2, hv2, hcc, hr2⟩ := ho.sl HT.out.ws
   rw [hsl] at hv2 hcc
   have C3 := Lh (Bs A2 n c2 S wr.heap.size wr hsl hcc (by omega) hr2)
   clear ho hr2 hcc hsl hqn hv
   subst hv2
   go_wp2_with fail
   refine C3.out.mono ?_
   rintro e w3 ⟨v3, rfl, ho3, hb3⟩
   rw [HE2.out] at ho3
   have HO3 := Lh (ho3.low hbw.size)
   clear ho3 C3
   go_wp2
   go_ret
   exact ⟨_, rfl, HO3.out, Aa hbw hb3⟩

open Go.RowKit
theorem Afv {v u : Nat} (h : u ≤ v) (hv : Am v = false) : Am u = false := by
 unfold Am at hv ⊢
 have h1 := of_decide_eq_false hv
 have h2 := Bd (n := u) (k := (wds v).length) (Nat.lt_of_le_of_lt h (F7 v))
 exact decide_eq_false (by omega)
theorem U2 {v u : Nat} (h : u ≤ v) : (wds u).length ≤ (wds v).length := Bd (Nat.lt_of_le_of_lt h (F7 v))
open Go.RowKit
structure UpT (o : Nat) (a : List Nat) (s i : Nat) (S : List Nat) : Prop where
 len : S.length = o + i
 ws : Ws S
 sum : val S + 4294967296 ^ (o + i) * Er a s i = 4294967296 ^ o * (2 ^ s * val (a.take i))
theorem UpT.start (o : Nat) (a : List Nat) (s : Nat) : UpT o a s 0 (List.replicate o 0) := ⟨List.length_replicate, Ws.zeros _, by simp [val, Er, Gi]⟩
theorem Pt (a : List Nat) (s i : Nat) (hs : s ≤ 32) : Er a s (i + 1) = a.getD i 0 * 2 ^ s / 4294967296 := by
 unfold Er; rw [if_neg (by omega), Nat.add_sub_cancel, Lq _ s hs]
theorem UpT.next {o : Nat} {a : List Nat} {s i : Nat} {S : List Nat} (h : UpT o a s i S) (ha : Ws a) (hs : s ≤ 32) : UpT o a s (i + 1) (S ++ [Iy a s i]) := by
 obtain ⟨h1, h2, h3⟩ := h
 refine ⟨by rw [List.length_append, h1]; rfl, h2.append (Ws.cons (Zg ha s i hs) Ws.nil), ?_⟩
 rw [Fr, h1, Aq, Pt a s i hs]
 have e := Fu (4294967296 ^ (o + i)) (a.getD i 0 * 2 ^ s) (val S + 4294967296 ^ (o + i) * Er a s i) (4294967296 ^ o * (2 ^ s * (val (a.take i) + 4294967296 ^ i * a.getD i 0))) (by rw [h3, Nat.pow_add]; grind)
 rw [show o + (i + 1) = o + i + 1 by omega, Nat.pow_succ]
 unfold Iy
 grind
theorem UpT.whole {o : Nat} {a : List Nat} {s : Nat} {S : List Nat} (h : UpT o a s a.length S) : val (S ++ [Er a s a.length]) = val a * 2 ^ (32 * o + s) := by
 have h3 := h.sum
 rw [List.take_of_length_le (Nat.le_refl _)] at h3
 rw [Fr, h.len, h3, Ji, Nat.pow_add]
 grind
theorem Y5 {a : List Nat} (ha : Ws a) (s i : Nat) (hs : s ≤ 32) : Er a s i < 2 ^ s := by
 unfold Er
 split
 ·exact Nat.two_pow_pos s
 ·exact I9 _ s hs (ha.getD _)
theorem Ahe (x k s : Nat) (hx : x < 4294967296) (hs : s < 32) (hk : k < 2 ^ s) : x * 2 ^ s < 18446744073709551616 ∧ k < 4294967296 ∧ (x * 2 ^ s ||| k) = x * 2 ^ s + k ∧ (x * 2 ^ s + k) % 4294967296 = x * 2 ^ s % 4294967296 + k ∧ (x * 2 ^ s + k) / 4294967296 = x * 2 ^ s / 4294967296 ∧ x * 2 ^ s + k < 18446744073709551616 := by
 have h1 : x * 2 ^ s ≤ x * 2 ^ 32 := Nat.mul_le_mul_left _ (Nat.pow_le_pow_right (by omega) (by omega))
 have h2 : 2 ^ s ≤ 2 ^ 31 := Nat.pow_le_pow_right (by omega) (by omega)
 have h3 : x * 2 ^ s ||| k = x * 2 ^ s + k := by rw [Nat.mul_comm, Nat.two_pow_add_eq_or_of_lt hk]
 have h4 := E4 x s (by omega)
 have h5 : 2 ^ s * (x % 2 ^ (32 - s) + 1) ≤ 2 ^ s * 2 ^ (32 - s) := Nat.mul_le_mul_left _ (Nat.mod_lt _ (Nat.two_pow_pos _))
 rw [Di (by omega : s ≤ 32), Nat.mul_add, Nat.mul_one, ← h4] at h5
 generalize 2 ^ s = P at *
 generalize x * P = y at *
 refine ⟨by omega, by omega, h3, by omega, by omega, by omega⟩
theorem Ahv (A : Option Addr) (n c : Nat) (p : Int) (l : List Nat) (w : World) (hn : l.length = n) (hc : n ≤ c) (hm : n ≤ 4096) (h : RW w w.heap.size A l) (h0 : nrm l = []) :
  Cp 317 #[.slice A n c, .int .i64 p] w (SlPost [] w) := by
 have c1 := (Bs A n c l w.heap.size w hn hc (by omega) h).mono (fun e w' x => SlPost.of h.1.nrm x)
 rw [h0] at c1
 clear hn hc hm h h0
 go_enter Tryz.func317, Tryz.ntmps317
 go_wp2_with fail
 refine c1.mono ?_
 rintro e w1 ⟨v1, rfl, ⟨A1, c1, rfl, _, _⟩, b1⟩
 go_wp2
 go_ret
 exact ⟨_, rfl, Sl.nil _ _ _, b1⟩
theorem Ahk (A : Option Addr) (n c p o s : Nat) (l : List Nat) (w : World) (hn : l.length = n) (hc : n ≤ c) (hm : n ≤ 4096) (h : RW w w.heap.size A l) (h0 : nrm l ≠ []) (hpo : p = 32 * o + s) (hs : s < 32) (ho : o ≤ 1024) :
  Cp 317 #[.slice A n c, .int .i64 p] w (SlPost (wds (val l * 2 ^ p)) w) := by
 obtain ⟨i0, hi, hz0, hz1, hz2⟩ := info_parts Ei
 have c1 := (Bs A n c l w.heap.size w hn hc (by omega) h).mono (fun e w' x => SlPost.of h.1.nrm x)
 have hpos : 0 < (nrm l).length := List.length_pos_iff.2 h0
 have hle := Aw l
 obtain ⟨N, hN⟩ : ∃ N, (nrm l).length = N := ⟨_, rfl⟩
 have HNN := Lh hN
 rw [hN] at hpos hle
 obtain ⟨b, off, rfl, hb, hcell⟩ := h.2 (by omega)
 have HCELL := Lh hcell
 have HA := Lh h
 have HN := Lh hn
 have HP := Lh hpo
 have HS := Lh hs
 have hN0 : ((N : Int) == 0) = false := by simp; omega
 have hN1 : (N : Int) ≤ 4096 := by omega
 have hn1 : (n : Int) ≤ 4096 := by omega
 have ho1 : (o : Int) ≤ 1024 := by omega
 have hs1 : (s : Int) < 32 := by omega
 have hs0 : (0 : Int) ≤ (s : Int) := by omega
 have e3 : (p : Int) / 32 = (o : Int) := by omega
 have e4 : (p : Int) % 32 = (s : Int) := by omega
 have p0 : (0 : Int) ≤ (p : Int) := by omega
 have HMK := Lh (fun W => run_make_row' (P := Tryz.prog) 180 156 (.int .u32 0) 4 Tryz.underlying180 Ei rfl .i64 .i64 o (by omega) (by omega) W)
 clear hn hc hm h h0 hN hpos hle hcell hpo hs
 go_enter Tryz.func317, Tryz.ntmps317
 go_wp2_with fail
 refine c1.mono ?_
 rintro e w1 ⟨v1, rfl, ⟨A1, d1, rfl, _, _⟩, b1⟩
 rw [HNN.out]
 have hmk := HMK.out w1
 have HROW := Lh (Row.made w1 o)
 have HB1 := Lh (show Below w.heap.size w (w1.alloc (.cells (madeCells #[.int .u32 0] o) 156)) from b1.alloc b1.size _)
 have HOWN := Lh (show OwnW w.heap.size (List.replicate o 0) (.slice (some ⟨w1.heap.size, 0, none⟩) o o) (w1.alloc (.cells (madeCells #[.int .u32 0] o) 156)) from by
  have := HROW.out.own b1.size (by rw [List.length_replicate]; unfold maxLen; omega)
  rw [List.length_replicate] at this; exact this)
 have HSTART := Lh (UpT.start o l s)
 clear b1 c1 ho
 go_wp2
 clear hmk
 go_loopw [5, 6, 7] (fun v cv i wr => ∃ (q : Nat) (S : List Nat), i = .int .i64 q ∧ cv = .int .u64 (Er l s q : Nat) ∧ q ≤ n ∧ Hid (OwnW w.heap.size S v wr) ∧ Hid (UpT o l s q S) ∧ Below w.heap.size w wr) (fun _ _ i _ => n - (intOf i).toNat)
 case atStart => exact ⟨0, _, rfl, by simp [Er], Nat.zero_le _, HOWN, HSTART, HB1.out⟩
 case round =>
  obtain ⟨q, S, rfl, rfl, hq, HO, HT, hbw⟩ := hrel
  have HSL := Lh (show (S.length + 1) * 4 ≤ 140737488355328 ∧ S.length + 1 ≤ maxLen ∧ S.length + 1 ≤ 35184372088832 by have := HT.out.len; unfold maxLen; omega)
  by_cases hlt : q < n
  ·have hcl : wr.cell? ⟨b, off + q, none⟩ = some (.int .u32 (l.getD q 0 : Nat)) := by
    rw [hbw.cell (p := ⟨b, off + q, none⟩) hb]; exact HCELL.out q _ (getD_some (by rw [HN.out]; exact hlt))
   have HNX := Lh (HT.out.next HA.out.1 (by have := HS.out; omega))
   have HNC := Lh (Pt l s q (by have := HS.out; omega))
   have hkl := Y5 HA.out.1 s q (by have := HS.out; omega)
   have hxl := HA.out.1.getD q
   have HW := Lh (show Iy l s q = l.getD q 0 * 2 ^ s % 4294967296 + Er l s q from rfl)
   obtain ⟨x, hx⟩ : ∃ x, l.getD q 0 = x := ⟨_, rfl⟩
   obtain ⟨k, hk⟩ : ∃ k, Er l s q = k := ⟨_, rfl⟩
   rw [hx] at hcl hxl HW HNC
   rw [hk] at hkl HW ⊢
   have HU := Lh (Ahe x k s hxl HS.out hkl)
   have hqq : (q : Int) < (n : Int) := by omega
   obtain ⟨y, hy⟩ : ∃ y, x * 2 ^ s = y := ⟨_, rfl⟩
   have k1 : IntKind.u64.wrap (x : Int) = (x : Int) := IntWalk.u64_in _ (by omega)
   have k2 : IntKind.u64.wrap ((x : Int) * 2 ^ s) = (y : Int) := by
    have e : ((x : Int) * 2 ^ s) = ((x * 2 ^ s : Nat) : Int) := by rw [Int.natCast_mul, Int.natCast_pow]; rfl
    rw [e, hy]
    exact IntWalk.u64_in _ (by have := HU.out.1; omega)
   obtain ⟨u1, u2, u3, u4, u5, u6⟩ := HU.out
   rw [hy] at u1 u3 u4 u5 u6 HW HNC
   obtain ⟨t, ht⟩ : ∃ t, y + k = t := ⟨_, rfl⟩
   rw [ht] at u3 u4 u5 u6
   have k3 : bits BinOp.or IntKind.u64 (y : Int) (k : Int) = (t : Int) := by rw [Gp y k u1 (by omega), u3]
   have ew : Iy l s q = t % 4294967296 := by rw [HW.out, u4]
   have ec : Er l s (q + 1) = t / 4294967296 := by rw [HNC.out, u5]
   rw [ew] at HNX
   have HEC := Lh ec
   clear hx hk hkl hxl hlt hq u1 u2 u3 u4 u5 u6 ew ec ht hy HU HW HNC
   go_wp2_with (at_builtin; refine wpList_append_own _ rfl _ _ 180 rfl w.heap.size 156 i0 (.int .u32 0) 1 4 Tryz.underlying180 hi hz0 hz1 hz2 rfl (by decide) _ _ _ rfl (World.ownsRow.alloc (w := wr) HO.out _) ⟨wr.heap.size, 0, none⟩ 1 1 [.int .u32 ((t % 4294967296 : Nat) : Int)] rfl rfl ?c1 ?c2 ?c3 ?c4 ?c5 ?_)
   case c1 => exact (cell_one_new _ _ _)
   case c2 => simp [Value.oneCell']
   case c3 => exact HSL.out.2.1
   case c4 => exact HSL.out.1
   case c5 => have := hbw.size; simp; omega
   intro v' w2 hown hg _
   have HO2 := Lh (OwnW.snoc hown)
   have hbb : Below w.heap.size w w2 := (hbw.alloc hbw.size _).grown hg (by have := hbw.size; simp; omega) (fun j hj => (World.ownsRow.lt HO.out j hj).1)
   clear hown hg
   go_wp2
   go_roundw
   case rel => exact ⟨q + 1, _, by go_num, by rw [HEC.out]; go_num, by omega, HO2, HNX, hbb⟩
   case measure => simp [intOf]; omega
  ·have hqn : q = n := by omega
   subst hqn
   have HT2 := Lh (show UpT o l s l.length S by rw [HN.out]; exact HT.out)
   have hk2 := Y5 HA.out.1 s l.length (by have := HS.out; omega)
   have HV := HT2.out.whole
   have hlen := HT2.out.len
   rw [HN.out] at hk2 HV hlen
   obtain ⟨r, hr⟩ : ∃ r, Er l s q = r := ⟨_, rfl⟩
   rw [hr] at hk2 HV ⊢
   have hrl : r < 4294967296 := Nat.lt_of_lt_of_le hk2 (show 2 ^ s ≤ 2 ^ 32 from Nat.pow_le_pow_right (by omega) (by have := HS.out; omega))
   have k1 : IntKind.u32.wrap (r : Int) = (r : Int) := IntWalk.u32_in _ (by omega)
   have HE1 := Lh (HT2.out.ws.append (Ws.cons hrl Ws.nil))
   have HE2 := Lh (show nrm (S ++ [r]) = wds (val l * 2 ^ p) by rw [Be HE1.out, HV, HP.out])
   clear hk2 HV hlen hr hrl hlt hq
   go_wp2_with (at_builtin; refine wpList_append_own _ rfl _ _ 180 rfl w.heap.size 156 i0 (.int .u32 0) 1 4 Tryz.underlying180 hi hz0 hz1 hz2 rfl (by decide) _ _ _ rfl (World.ownsRow.alloc (w := wr) HO.out _) ⟨wr.heap.size, 0, none⟩ 1 1 [.int .u32 (r : Nat)] rfl rfl ?c1 ?c2 ?c3 ?c4 ?c5 ?_)
   case c1 => exact (cell_one_new _ _ _)
   case c2 => simp [Value.oneCell']
   case c3 => exact HSL.out.2.1
   case c4 => exact HSL.out.1
   case c5 => have := hbw.size; simp; omega
   intro v' w2 hown hg _
   have ho := OwnW.snoc hown
   have hbb : Below w.heap.size w w2 := (hbw.alloc hbw.size _).grown hg (by have := hbw.size; simp; omega) (fun j hj => (World.ownsRow.lt HO.out j hj).1)
   obtain ⟨A2, c2, hv, hcc, hr2⟩ := ho.sl HE1.out
   obtain ⟨N2, hN2⟩ : ∃ N2, (S ++ [r]).length = N2 := ⟨_, rfl⟩
   have C3 := Lh (Bs A2 N2 c2 (S ++ [r]) w2.heap.size w2 hN2 (by rw [← hN2]; exact hcc) (by rw [← hN2, List.length_append]; exact HSL.out.2.2) hr2)
   rw [hN2] at hv
   clear hown hg ho hr2 hcc hN2
   subst hv
   go_wp2_with fail
   refine C3.out.mono ?_
   rintro e w3 ⟨v3, rfl, ho3, hb3⟩
   rw [HE2.out] at ho3
   have HO3 := Lh (ho3.sl (Az _))
   clear ho3 C3
   go_wp2
   go_ret
   exact ⟨_, rfl, HO3.out, Aa hbb hb3⟩
theorem Af7 (A : Option Addr) (n c p : Nat) (l : List Nat) (w : World) (hn : l.length = n) (hc : n ≤ c) (hm : n ≤ 4096) (h : RW w w.heap.size A l) (hp : p ≤ 32768) :
  Cp 317 #[.slice A n c, .int .i64 p] w (SlPost (wds (val l * 2 ^ p)) w) := by
 by_cases h0 : nrm l = []
 ·have := Ahv A n c p l w hn hc hm h h0
  rw [← Ar l, h0, show val [] = 0 from rfl, Nat.zero_mul]
  exact this
 ·exact Ahk A n c p (p / 32) (p % 32) l w hn hc hm h h0 (by omega) (by omega) (by omega)

open Go.RowKit
theorem Vo {l : List Nat} (h : Ws l) : btl l = 0 ↔ nrm l = [] := by
 constructor
 ·intro e
  rcases Classical.em (nrm l = []) with h0 | h0
  ·exact h0
  ·have := (Bc h h0).2.2; omega
 ·intro e; unfold btl; rw [if_pos e]
theorem Acu {v : Nat} {p : Int} {w : World} (h : Am v = true) : Tj v p w = F1 3 w := by funext e w'; unfold Tj; rw [if_pos h]
theorem Ad3 {v : Nat} {p : Int} {w : World} (h : Am v = false) (hp : p < 0) : Tj v p w = F1 1 w := by funext e w'; unfold Tj; rw [if_neg (by rw [h]; simp), if_pos hp]
theorem Ain {v q : Nat} {w : World} (h : Am v = false) : Tj v (q : Int) w = NatPost (v * 2 ^ q) w := by funext e w'; unfold Tj; rw [if_neg (by rw [h]; simp), if_neg (by omega), Int.toNat_natCast]
theorem Ac1 (A : Option Addr) (n c : Nat) (p : Int) (l : List Nat) (w : World) (hn : l.length = n) (hc : n ≤ c) (hm : n ≤ 35184372088832) (h : RW w w.heap.size A l) :
  Cp 340 #[.slice A n c, .int .i64 p] w (Tj (val l) p w) := by
 cases hl : Am (val l)
 ·by_cases hp : p < 0
  ·rw [Ad3 hl hp]
   exact Agy A n c p l w hn hc hm h hl hp
  ·obtain ⟨q, rfl⟩ : ∃ q : Nat, p = (q : Int) := ⟨p.toNat, by omega⟩
   rw [Ain hl]
   by_cases h0 : nrm l = []
   ·have := Aci A n c q l w hn hc hm h (by omega) h0
    rw [← Ar l, h0, show val [] = 0 from rfl, Nat.zero_mul]
    exact this
   ·have h1 : nrm (nrm l) ≠ [] := by rw [Ev]; exact h0
    by_cases hf : btl (nrm l) + q ≤ 32768
    ·exact Ah6 A n c q (q / 32) (q % 32) l w hn hc hm h hl h0 hf (by omega) (by omega)
    ·refine (Afq A n c q l w hn hc hm h hl (by omega) h0 (by omega)).mono fun e w' x => ?_
     obtain ⟨rfl, hb⟩ := x
     have := Afz (n := q) h.1.nrm h1 (by omega)
     rw [Ar] at this
     exact NatPost.long this hb
 ·rw [Acu hl]
  exact Aba A n c p l w hn hc hm h hl
theorem Afs (b e n : Nat) (h : e ≤ n) (hl : Am (b ^ e) = true) : Am (b ^ n) = true := by
 cases hn : Am (b ^ n)
 ·rcases Nat.eq_zero_or_pos b with h0 | h0
  ·subst h0
   rcases Nat.eq_zero_or_pos e with h1 | h1
   ·subst h1
    have : Am (0 ^ 0) = false := D0 (by simp)
    rw [this] at hl; cases hl
   ·rw [Nat.zero_pow h1, D0 (by omega)] at hl; cases hl
  ·have := Afv (Nat.pow_le_pow_right h0 h) hn
   rw [this] at hl; cases hl
 ·rfl
theorem Ag3 (b n q : Nat) : b ^ (n / 2 ^ (q + 1)) * b ^ (n / 2 ^ (q + 1)) * b ^ (n / 2 ^ q % 2) = b ^ (n / 2 ^ q) := by
 rw [← Nat.pow_add, ← Nat.pow_add]
 congr 1
 rw [Nat.pow_succ, ← Nat.div_div_eq_div_mul]
 omega
theorem Ajp (b n q : Nat) : b ^ (n / 2 ^ (q + 1)) * b ^ (n / 2 ^ (q + 1)) = b ^ (n / 2 ^ (q + 1) + n / 2 ^ (q + 1)) := (Nat.pow_add ..).symm
theorem Aj7 (n q : Nat) : n / 2 ^ (q + 1) + n / 2 ^ (q + 1) ≤ n := by
 have h1 : n / 2 ^ (q + 1) * 2 ^ (q + 1) ≤ n := Nat.div_mul_le_self n _
 have h2 : 2 ≤ 2 ^ (q + 1) := by rw [Nat.pow_succ]; have := Nat.two_pow_pos q; omega
 have h3 : n / 2 ^ (q + 1) * 2 ≤ n / 2 ^ (q + 1) * 2 ^ (q + 1) := Nat.mul_le_mul_left _ h2
 omega



end
end Go.Proofs.YtmimeejjaneedaaGreatDoor
