/-
  Merged texts (Vg, Vh, Vi, Vj, Vk, Vl, Vm, Vo, ZzM, Nt, Nu, ZzO, ZzP, ZzT, Qv, Pc, Pd, ZzV).
-/
import Derived.Test.YtmimeejjaneedaaGreatDoorQlf
import Derived.IntWalk
import Derived.StillTailTactics
open Go.RowKit
set_option maxRecDepth 100000
set_option maxHeartbeats 40000000
namespace Go.Proofs.YtmimeejjaneedaaGreatDoor
section
theorem P0 : ∀ (g : List Nat) (n : Nat), 1099511627776 ≤ n → g.foldl O0 n = n
 | [], _, _ => rfl
 | c :: g, n, h => by
  have : O0 n c = n := if_neg (by omega)
  rw [List.foldl_cons, this]
  exact P0 g n h
theorem Gh (f : List Nat) (j : Nat) (h : 1099511627776 ≤ amt (f.take j)) : amt f = amt (f.take j) := by
 conv => lhs; rw [← List.take_append_drop j f]
 unfold amt at h ⊢
 rw [List.foldl_append]
 exact P0 _ _ h
end
section
theorem Ab7 (s G : ByteArray) (at' F : Nat) (E : Int) (w : World) (hs : s.size ≤ 140737488355328)  (ha : at' = s.size)
  (C2 : Hid (∀ W, Ct 267 #[.string G, .int .i64 E] (.float .f64 F) W)) :
  Ct 204 #[.string s, .int .i64 (at' : Nat), .string G, .int .i64 E] (.tuple #[.int .i64 (at' : Nat), .float .f64 F]) w := by
 have h1 : (s.size : Int) ≤ 140737488355328 := by omega
 have a1 : (0 : Int) ≤ (at' : Int) := by omega
 have t0 : ¬ (at' : Int) < (s.size : Int) := by omega
 have a2 : (at' : Int) ≤ 140737488355328 := by omega
 clear hs ha
 go_enter Tryz.func204, Tryz.ntmps204
 go_wp2_with fail
 refine (C2.out _).mono ?_
 rintro e w' ⟨rfl, hb⟩
 go_wp2
 go_ret2
 exact ⟨rfl, hb⟩
theorem Te (s G : ByteArray) (at' F : Nat) (E : Int) (w : World) (hs : s.size ≤ 140737488355328)  (B : Nat) (h : at' < s.size) (hB : (s[at']'h).toNat = B) (n1 : B ≠ 101) (n2 : B ≠ 69)
  (C2 : Hid (∀ W, Ct 267 #[.string G, .int .i64 E] (.float .f64 F) W)) :
  Ct 204 #[.string s, .int .i64 (at' : Nat), .string G, .int .i64 E] (.tuple #[.int .i64 (at' : Nat), .float .f64 F]) w := by
 have h1 : (s.size : Int) ≤ 140737488355328 := by omega
 have a1 : (0 : Int) ≤ (at' : Int) := by omega
 have a2 : (at' : Int) < (s.size : Int) := by omega
 have e0 : ((s[at']'h).toNat : Int) = (B : Int) := by rw [hB]
 have e1 : ((B : Int) == 101) = false := by rw [beq_eq_false_iff_ne]; omega
 have e2 : ((B : Int) == 69) = false := by rw [beq_eq_false_iff_ne]; omega
 clear hs hB n1 n2
 go_enter Tryz.func204, Tryz.ntmps204
 go_wp2_with fail
 refine (C2.out _).mono ?_
 rintro e w' ⟨rfl, hb⟩
 go_wp2
 go_ret2
 exact ⟨rfl, hb⟩
theorem Le (s G : ByteArray) (at' F : Nat) (E : Int) (w : World) (hs : s.size ≤ 140737488355328)  (h : at' < s.size) (hc : (s[at']'h).toNat = 101) (g : at' + 1 = s.size)
  (C1 : Hid (∀ W, Cq 203 #[.string s, .int .i64 ((at' : Int) + 1)] (.int .i64 0) W))
  (C2 : Hid (∀ W, Ct 267 #[.string G, .int .i64 E] (.float .f64 F) W)) :
  Ct 204 #[.string s, .int .i64 (at' : Nat), .string G, .int .i64 E] (.tuple #[.int .i64 (at' : Nat), .float .f64 F]) w := by
 have h1 : (s.size : Int) ≤ 140737488355328 := by omega
 have a1 : (0 : Int) ≤ (at' : Int) := by omega
 have a2 : (at' : Int) < (s.size : Int) := by omega
 have e0 : ((s[at']'h).toNat : Int) = 101 := by rw [hc]; rfl
 have t0 : decide ((at' : Int) + 1 < (s.size : Int)) = false := decide_eq_false (by omega)
 clear hs hc g
 go_enter Tryz.func204, Tryz.ntmps204
 go_wp2_with fail
 refine Sm (C1.out _) ?_
 go_wp2_with fail
 refine (C2.out _).mono ?_
 rintro e w' ⟨rfl, hb⟩
 go_wp2
 go_ret2
 exact ⟨rfl, hb⟩
theorem J6 (s G : ByteArray) (at' F : Nat) (E : Int) (w : World) (hs : s.size ≤ 140737488355328)  (B : Nat) (h : at' < s.size) (hc : (s[at']'h).toNat = 101) (g : at' + 1 < s.size) (hB : (s[at' + 1]'g).toNat = B) (n1 : B ≠ 45) (n2 : B ≠ 43)
  (C1 : Hid (∀ W, Cq 203 #[.string s, .int .i64 ((at' : Int) + 1)] (.int .i64 0) W))
  (C2 : Hid (∀ W, Ct 267 #[.string G, .int .i64 E] (.float .f64 F) W)) :
  Ct 204 #[.string s, .int .i64 (at' : Nat), .string G, .int .i64 E] (.tuple #[.int .i64 (at' : Nat), .float .f64 F]) w := by
 have h1 : (s.size : Int) ≤ 140737488355328 := by omega
 have a1 : (0 : Int) ≤ (at' : Int) := by omega
 have a2 : (at' : Int) < (s.size : Int) := by omega
 have e0 : ((s[at']'h).toNat : Int) = 101 := by rw [hc]; rfl
 have b1 : (0 : Int) ≤ (at' : Int) + 1 := by omega
 have b2 : (at' : Int) + 1 < (s.size : Int) := by omega
 have b3 : ((at' : Int) + 1).toNat = at' + 1 := by omega
 have e1 : ((s[at' + 1]'g).toNat : Int) = (B : Int) := by rw [hB]
 have e2 : ((B : Int) == 45) = false := by rw [beq_eq_false_iff_ne]; omega
 have e3 : ((B : Int) == 43) = false := by rw [beq_eq_false_iff_ne]; omega
 clear hs hc hB n1 n2
 go_enter Tryz.func204, Tryz.ntmps204
 go_wp2_with fail
 refine Sm (C1.out _) ?_
 go_wp2_with fail
 refine (C2.out _).mono ?_
 rintro e w' ⟨rfl, hb⟩
 go_wp2
 go_ret2
 exact ⟨rfl, hb⟩
theorem Jz (s G : ByteArray) (at' F : Nat) (E : Int) (w : World) (hs : s.size ≤ 140737488355328) (hE1 : -281474976710656 ≤ E) (hE2 : E ≤ 281474976710656) (B : Nat) (n : Nat) (R : List Nat) (h : at' < s.size) (hc : (s[at']'h).toNat = 101) (g : at' + 1 < s.size) (hB : (s[at' + 1]'g).toNat = B) (n1 : B ≠ 45) (n2 : B ≠ 43) (hn0 : 0 < n) (hR : R.length = n) (hd : ∀ c ∈ R, Ah c = true) (hRs : ∀ j, j < n → ∃ hj : at' + 1 + j < s.size, R[j]? = some (s[at' + 1 + j]'hj).toNat)
  (C1 : Hid (∀ W, Cq 203 #[.string s, .int .i64 ((at' : Int) + 1)] (.int .i64 (n : Nat)) W))
  (C2 : Hid (∀ W, Ct 267 #[.string G, .int .i64 (E + (amt R : Nat))] (.float .f64 F) W)) :
  Ct 204 #[.string s, .int .i64 (at' : Nat), .string G, .int .i64 E] (.tuple #[.int .i64 ((at' : Int) + 1 + (n : Int)), .float .f64 F]) w := by
 have h1 : (s.size : Int) ≤ 140737488355328 := by omega
 have a1 : (0 : Int) ≤ (at' : Int) := by omega
 have a2 : (at' : Int) < (s.size : Int) := by omega
 have e0 : ((s[at']'h).toNat : Int) = 101 := by rw [hc]; rfl
 have b1 : (0 : Int) ≤ (at' : Int) + 1 := by omega
 have b2 : (at' : Int) + 1 < (s.size : Int) := by omega
 have b3 : ((at' : Int) + 1).toNat = at' + 1 := by omega
 have e1 : ((s[at' + 1]'g).toNat : Int) = (B : Int) := by rw [hB]
 have e2 : ((B : Int) == 45) = false := by rw [beq_eq_false_iff_ne]; omega
 have e3 : ((B : Int) == 43) = false := by rw [beq_eq_false_iff_ne]; omega
 have hnl : n ≤ s.size := by
  obtain ⟨x, _⟩ := hRs (n - 1) (by omega)
  omega
 have n3 : (n : Int) ≤ (s.size : Int) := by omega
 have n4 : (0 : Int) < (n : Int) := by omega
 have HD := Lh hd
 have HR := Lh hR
 have HRS := Lh hRs
 clear hd hR hRs hn0 hnl
 clear hs hc hB n1 n2
 go_enter Tryz.func204, Tryz.ntmps204
 go_wp2_with fail
 refine Sm (C1.out _) ?_
 go_wp2
 clear e0 e1 e2 e3 n4
 go_loopw [13, 14] (fun x i wr => ∃ j : Nat, i = .int .i64 j ∧ j ≤ n ∧ x = .int .i64 (amt (R.take j) : Nat) ∧ w = wr) (fun _ i _ => n - (intOf i).toNat)
 case atStart => exact ⟨0, rfl, Nat.zero_le _, rfl, rfl⟩
 case round =>
  obtain ⟨j, rfl, hj, rfl, rfl⟩ := hrel
  obtain ⟨N, hN⟩ : ∃ N, amt (R.take j) = N := ⟨_, rfl⟩
  have hNl : N < 10995116277760 := by rw [← hN]; exact Gv _ (fun c hc => HD.out c (List.mem_of_mem_take hc))
  have hNl2 : (N : Int) < 10995116277760 := by omega
  have HN := Lh hN
  rw [hN]
  clear hN
  by_cases hlt : j < n
  ·have l1 : (j : Int) < (n : Int) := by omega
   by_cases hst : N < 1099511627776
   ·obtain ⟨hx, hget⟩ := HRS.out j hlt
    obtain ⟨B9, hB9⟩ : ∃ B9 : Nat, (s[at' + 1 + j]'hx).toNat = B9 := ⟨_, rfl⟩
    rw [hB9] at hget
    have hdB := Ca.1 (HD.out B9 (List.mem_of_getElem? hget))
    have hstep : amt (R.take (j + 1)) = N * 10 + (B9 - 48) := by
     rw [List.take_add_one, hget]
     refine (Fh _ _).trans ?_
     rw [HN.out]
     exact if_pos hst
    obtain ⟨D, hD⟩ : ∃ D : Nat, B9 - 48 = D := ⟨_, rfl⟩
    obtain ⟨M, hM⟩ : ∃ M : Nat, N * 10 + D = M := ⟨_, rfl⟩
    have HS := Lh (show amt (R.take (j + 1)) = M from by rw [hstep, hD, hM])
    have l2 : (N : Int) < 1099511627776 := by omega
    have l3 : (0 : Int) ≤ (at' : Int) + 1 + (j : Int) := by omega
    have l4 : (at' : Int) + 1 + (j : Int) < (s.size : Int) := by omega
    have l5 : ((at' : Int) + 1 + (j : Int)).toNat = at' + 1 + j := by omega
    have l6 : ((s[at' + 1 + j]'hx).toNat : Int) = (B9 : Int) := by rw [hB9]
    have l7 : IntKind.u8.wrap ((B9 : Int) - 48) = (D : Int) := by rw [IntWalk.u8_in _ (by omega)]; omega
    have l8 : IntKind.i64.wrap (D : Int) = (D : Int) := IntWalk.i64_in _ (by omega)
    have l9 : (N : Int) * 10 + (D : Int) = (M : Int) := by omega
    have l10 : IntKind.i64.wrap ((N : Int) * 10) = (N : Int) * 10 := IntWalk.i64_in _ (by omega)
    have l11 : IntKind.i64.wrap ((N : Int) * 10 + (D : Int)) = (M : Int) := by rw [IntWalk.i64_in _ (by omega)]; omega
    clear hstep hD hM hdB hget hB9 hst l9 hNl
    go_wp2
    exact ⟨⟨j + 1, by go_num, by omega, by rw [HS.out], trivial⟩, by simp [intOf]; omega⟩
   ·have HZ := Lh (show amt R = N from by rw [Gh R j (by rw [HN.out]; omega), HN.out])
    have l2 : decide ((N : Int) < 1099511627776) = false := decide_eq_false (by omega)
    rw [HZ.out] at C2
    clear hst hNl
    go_wp2_with fail
    refine (C2.out _).mono ?_
    rintro e w' ⟨rfl, hb⟩
    go_wp2
    go_ret2
    exact ⟨rfl, hb⟩
  ·have HZ := Lh (show amt R = N from by rw [← HN.out, List.take_of_length_le (by rw [HR.out]; omega)])
   have l2 : ¬ (j : Int) < (n : Int) := by omega
   rw [HZ.out] at C2
   clear hlt hNl
   go_wp2_with fail
   refine (C2.out _).mono ?_
   rintro e w' ⟨rfl, hb⟩
   go_wp2
   go_ret2
   exact ⟨rfl, hb⟩
theorem Jy (s G : ByteArray) (at' F : Nat) (E : Int) (w : World) (hs : s.size ≤ 140737488355328)  (h : at' < s.size) (hc : (s[at']'h).toNat = 101) (g : at' + 1 < s.size) (hB : (s[at' + 1]'g).toNat = 45)
  (C1 : Hid (∀ W, Cq 203 #[.string s, .int .i64 ((at' : Int) + 1 + 1)] (.int .i64 0) W))
  (C2 : Hid (∀ W, Ct 267 #[.string G, .int .i64 E] (.float .f64 F) W)) :
  Ct 204 #[.string s, .int .i64 (at' : Nat), .string G, .int .i64 E] (.tuple #[.int .i64 (at' : Nat), .float .f64 F]) w := by
 have h1 : (s.size : Int) ≤ 140737488355328 := by omega
 have a1 : (0 : Int) ≤ (at' : Int) := by omega
 have a2 : (at' : Int) < (s.size : Int) := by omega
 have e0 : ((s[at']'h).toNat : Int) = 101 := by rw [hc]; rfl
 have b1 : (0 : Int) ≤ (at' : Int) + 1 := by omega
 have b2 : (at' : Int) + 1 < (s.size : Int) := by omega
 have b3 : ((at' : Int) + 1).toNat = at' + 1 := by omega
 have e1 : ((s[at' + 1]'g).toNat : Int) = 45 := by rw [hB]; rfl
 clear hs hc hB
 go_enter Tryz.func204, Tryz.ntmps204
 go_wp2_with fail
 refine Sm (C1.out _) ?_
 go_wp2_with fail
 refine (C2.out _).mono ?_
 rintro e w' ⟨rfl, hb⟩
 go_wp2
 go_ret2
 exact ⟨rfl, hb⟩
theorem Jj (s G : ByteArray) (at' F : Nat) (E : Int) (w : World) (hs : s.size ≤ 140737488355328) (hE1 : -281474976710656 ≤ E) (hE2 : E ≤ 281474976710656) (n : Nat) (R : List Nat) (h : at' < s.size) (hc : (s[at']'h).toNat = 101) (g : at' + 1 < s.size) (hB : (s[at' + 1]'g).toNat = 45) (hn0 : 0 < n) (hR : R.length = n) (hd : ∀ c ∈ R, Ah c = true) (hRs : ∀ j, j < n → ∃ hj : at' + 2 + j < s.size, R[j]? = some (s[at' + 2 + j]'hj).toNat)
  (C1 : Hid (∀ W, Cq 203 #[.string s, .int .i64 ((at' : Int) + 1 + 1)] (.int .i64 (n : Nat)) W))
  (C2 : Hid (∀ W, Ct 267 #[.string G, .int .i64 (E + -(amt R : Nat))] (.float .f64 F) W)) :
  Ct 204 #[.string s, .int .i64 (at' : Nat), .string G, .int .i64 E] (.tuple #[.int .i64 ((at' : Int) + 1 + 1 + (n : Int)), .float .f64 F]) w := by
 have h1 : (s.size : Int) ≤ 140737488355328 := by omega
 have a1 : (0 : Int) ≤ (at' : Int) := by omega
 have a2 : (at' : Int) < (s.size : Int) := by omega
 have e0 : ((s[at']'h).toNat : Int) = 101 := by rw [hc]; rfl
 have b1 : (0 : Int) ≤ (at' : Int) + 1 := by omega
 have b2 : (at' : Int) + 1 < (s.size : Int) := by omega
 have b3 : ((at' : Int) + 1).toNat = at' + 1 := by omega
 have e1 : ((s[at' + 1]'g).toNat : Int) = 45 := by rw [hB]; rfl
 have hnl : n ≤ s.size := by
  obtain ⟨x, _⟩ := hRs (n - 1) (by omega)
  omega
 have n3 : (n : Int) ≤ (s.size : Int) := by omega
 have n4 : (0 : Int) < (n : Int) := by omega
 have HD := Lh hd
 have HR := Lh hR
 have HRS := Lh hRs
 clear hd hR hRs hn0 hnl
 clear hs hc hB
 go_enter Tryz.func204, Tryz.ntmps204
 go_wp2_with fail
 refine Sm (C1.out _) ?_
 go_wp2
 clear e0 e1 n4
 go_loopw [13, 14] (fun x i wr => ∃ j : Nat, i = .int .i64 j ∧ j ≤ n ∧ x = .int .i64 (amt (R.take j) : Nat) ∧ w = wr) (fun _ i _ => n - (intOf i).toNat)
 case atStart => exact ⟨0, rfl, Nat.zero_le _, rfl, rfl⟩
 case round =>
  obtain ⟨j, rfl, hj, rfl, rfl⟩ := hrel
  obtain ⟨N, hN⟩ : ∃ N, amt (R.take j) = N := ⟨_, rfl⟩
  have hNl : N < 10995116277760 := by rw [← hN]; exact Gv _ (fun c hc => HD.out c (List.mem_of_mem_take hc))
  have hNl2 : (N : Int) < 10995116277760 := by omega
  have HN := Lh hN
  rw [hN]
  clear hN
  by_cases hlt : j < n
  ·have l1 : (j : Int) < (n : Int) := by omega
   by_cases hst : N < 1099511627776
   ·obtain ⟨hx, hget⟩ := HRS.out j hlt
    obtain ⟨B9, hB9⟩ : ∃ B9 : Nat, (s[at' + 2 + j]'hx).toNat = B9 := ⟨_, rfl⟩
    rw [hB9] at hget
    have hdB := Ca.1 (HD.out B9 (List.mem_of_getElem? hget))
    have hstep : amt (R.take (j + 1)) = N * 10 + (B9 - 48) := by
     rw [List.take_add_one, hget]
     refine (Fh _ _).trans ?_
     rw [HN.out]
     exact if_pos hst
    obtain ⟨D, hD⟩ : ∃ D : Nat, B9 - 48 = D := ⟨_, rfl⟩
    obtain ⟨M, hM⟩ : ∃ M : Nat, N * 10 + D = M := ⟨_, rfl⟩
    have HS := Lh (show amt (R.take (j + 1)) = M from by rw [hstep, hD, hM])
    have l2 : (N : Int) < 1099511627776 := by omega
    have l3 : (0 : Int) ≤ (at' : Int) + 1 + 1 + (j : Int) := by omega
    have l4 : (at' : Int) + 1 + 1 + (j : Int) < (s.size : Int) := by omega
    have l5 : ((at' : Int) + 1 + 1 + (j : Int)).toNat = at' + 2 + j := by omega
    have l6 : ((s[at' + 2 + j]'hx).toNat : Int) = (B9 : Int) := by rw [hB9]
    have l7 : IntKind.u8.wrap ((B9 : Int) - 48) = (D : Int) := by rw [IntWalk.u8_in _ (by omega)]; omega
    have l8 : IntKind.i64.wrap (D : Int) = (D : Int) := IntWalk.i64_in _ (by omega)
    have l9 : (N : Int) * 10 + (D : Int) = (M : Int) := by omega
    have l10 : IntKind.i64.wrap ((N : Int) * 10) = (N : Int) * 10 := IntWalk.i64_in _ (by omega)
    have l11 : IntKind.i64.wrap ((N : Int) * 10 + (D : Int)) = (M : Int) := by rw [IntWalk.i64_in _ (by omega)]; omega
    clear hstep hD hM hdB hget hB9 hst l9 hNl
    go_wp2
    exact ⟨⟨j + 1, by go_num, by omega, by rw [HS.out], trivial⟩, by simp [intOf]; omega⟩
   ·have HZ := Lh (show amt R = N from by rw [Gh R j (by rw [HN.out]; omega), HN.out])
    have l2 : decide ((N : Int) < 1099511627776) = false := decide_eq_false (by omega)
    rw [HZ.out] at C2
    clear hst hNl
    go_wp2_with fail
    refine (C2.out _).mono ?_
    rintro e w' ⟨rfl, hb⟩
    go_wp2
    go_ret2
    exact ⟨rfl, hb⟩
  ·have HZ := Lh (show amt R = N from by rw [← HN.out, List.take_of_length_le (by rw [HR.out]; omega)])
   have l2 : ¬ (j : Int) < (n : Int) := by omega
   rw [HZ.out] at C2
   clear hlt hNl
   go_wp2_with fail
   refine (C2.out _).mono ?_
   rintro e w' ⟨rfl, hb⟩
   go_wp2
   go_ret2
   exact ⟨rfl, hb⟩
theorem Lf (s G : ByteArray) (at' F : Nat) (E : Int) (w : World) (hs : s.size ≤ 140737488355328)  (h : at' < s.size) (hc : (s[at']'h).toNat = 101) (g : at' + 1 < s.size) (hB : (s[at' + 1]'g).toNat = 43)
  (C1 : Hid (∀ W, Cq 203 #[.string s, .int .i64 ((at' : Int) + 1 + 1)] (.int .i64 0) W))
  (C2 : Hid (∀ W, Ct 267 #[.string G, .int .i64 E] (.float .f64 F) W)) :
  Ct 204 #[.string s, .int .i64 (at' : Nat), .string G, .int .i64 E] (.tuple #[.int .i64 (at' : Nat), .float .f64 F]) w := by
 have h1 : (s.size : Int) ≤ 140737488355328 := by omega
 have a1 : (0 : Int) ≤ (at' : Int) := by omega
 have a2 : (at' : Int) < (s.size : Int) := by omega
 have e0 : ((s[at']'h).toNat : Int) = 101 := by rw [hc]; rfl
 have b1 : (0 : Int) ≤ (at' : Int) + 1 := by omega
 have b2 : (at' : Int) + 1 < (s.size : Int) := by omega
 have b3 : ((at' : Int) + 1).toNat = at' + 1 := by omega
 have e1 : ((s[at' + 1]'g).toNat : Int) = 43 := by rw [hB]; rfl
 clear hs hc hB
 go_enter Tryz.func204, Tryz.ntmps204
 go_wp2_with fail
 refine Sm (C1.out _) ?_
 go_wp2_with fail
 refine (C2.out _).mono ?_
 rintro e w' ⟨rfl, hb⟩
 go_wp2
 go_ret2
 exact ⟨rfl, hb⟩
theorem K9 (s G : ByteArray) (at' F : Nat) (E : Int) (w : World) (hs : s.size ≤ 140737488355328) (hE1 : -281474976710656 ≤ E) (hE2 : E ≤ 281474976710656) (n : Nat) (R : List Nat) (h : at' < s.size) (hc : (s[at']'h).toNat = 101) (g : at' + 1 < s.size) (hB : (s[at' + 1]'g).toNat = 43) (hn0 : 0 < n) (hR : R.length = n) (hd : ∀ c ∈ R, Ah c = true) (hRs : ∀ j, j < n → ∃ hj : at' + 2 + j < s.size, R[j]? = some (s[at' + 2 + j]'hj).toNat)
  (C1 : Hid (∀ W, Cq 203 #[.string s, .int .i64 ((at' : Int) + 1 + 1)] (.int .i64 (n : Nat)) W))
  (C2 : Hid (∀ W, Ct 267 #[.string G, .int .i64 (E + (amt R : Nat))] (.float .f64 F) W)) :
  Ct 204 #[.string s, .int .i64 (at' : Nat), .string G, .int .i64 E] (.tuple #[.int .i64 ((at' : Int) + 1 + 1 + (n : Int)), .float .f64 F]) w := by
 have h1 : (s.size : Int) ≤ 140737488355328 := by omega
 have a1 : (0 : Int) ≤ (at' : Int) := by omega
 have a2 : (at' : Int) < (s.size : Int) := by omega
 have e0 : ((s[at']'h).toNat : Int) = 101 := by rw [hc]; rfl
 have b1 : (0 : Int) ≤ (at' : Int) + 1 := by omega
 have b2 : (at' : Int) + 1 < (s.size : Int) := by omega
 have b3 : ((at' : Int) + 1).toNat = at' + 1 := by omega
 have e1 : ((s[at' + 1]'g).toNat : Int) = 43 := by rw [hB]; rfl
 have hnl : n ≤ s.size := by
  obtain ⟨x, _⟩ := hRs (n - 1) (by omega)
  omega
 have n3 : (n : Int) ≤ (s.size : Int) := by omega
 have n4 : (0 : Int) < (n : Int) := by omega
 have HD := Lh hd
 have HR := Lh hR
 have HRS := Lh hRs
 clear hd hR hRs hn0 hnl
 clear hs hc hB
 go_enter Tryz.func204, Tryz.ntmps204
 go_wp2_with fail
 refine Sm (C1.out _) ?_
 go_wp2
 clear e0 e1 n4
 go_loopw [13, 14] (fun x i wr => ∃ j : Nat, i = .int .i64 j ∧ j ≤ n ∧ x = .int .i64 (amt (R.take j) : Nat) ∧ w = wr) (fun _ i _ => n - (intOf i).toNat)
 case atStart => exact ⟨0, rfl, Nat.zero_le _, rfl, rfl⟩
 case round =>
  obtain ⟨j, rfl, hj, rfl, rfl⟩ := hrel
  obtain ⟨N, hN⟩ : ∃ N, amt (R.take j) = N := ⟨_, rfl⟩
  have hNl : N < 10995116277760 := by rw [← hN]; exact Gv _ (fun c hc => HD.out c (List.mem_of_mem_take hc))
  have hNl2 : (N : Int) < 10995116277760 := by omega
  have HN := Lh hN
  rw [hN]
  clear hN
  by_cases hlt : j < n
  ·have l1 : (j : Int) < (n : Int) := by omega
   by_cases hst : N < 1099511627776
   ·obtain ⟨hx, hget⟩ := HRS.out j hlt
    obtain ⟨B9, hB9⟩ : ∃ B9 : Nat, (s[at' + 2 + j]'hx).toNat = B9 := ⟨_, rfl⟩
    rw [hB9] at hget
    have hdB := Ca.1 (HD.out B9 (List.mem_of_getElem? hget))
    have hstep : amt (R.take (j + 1)) = N * 10 + (B9 - 48) := by
     rw [List.take_add_one, hget]
     refine (Fh _ _).trans ?_
     rw [HN.out]
     exact if_pos hst
    obtain ⟨D, hD⟩ : ∃ D : Nat, B9 - 48 = D := ⟨_, rfl⟩
    obtain ⟨M, hM⟩ : ∃ M : Nat, N * 10 + D = M := ⟨_, rfl⟩
    have HS := Lh (show amt (R.take (j + 1)) = M from by rw [hstep, hD, hM])
    have l2 : (N : Int) < 1099511627776 := by omega
    have l3 : (0 : Int) ≤ (at' : Int) + 1 + 1 + (j : Int) := by omega
    have l4 : (at' : Int) + 1 + 1 + (j : Int) < (s.size : Int) := by omega
    have l5 : ((at' : Int) + 1 + 1 + (j : Int)).toNat = at' + 2 + j := by omega
    have l6 : ((s[at' + 2 + j]'hx).toNat : Int) = (B9 : Int) := by rw [hB9]
    have l7 : IntKind.u8.wrap ((B9 : Int) - 48) = (D : Int) := by rw [IntWalk.u8_in _ (by omega)]; omega
    have l8 : IntKind.i64.wrap (D : Int) = (D : Int) := IntWalk.i64_in _ (by omega)
    have l9 : (N : Int) * 10 + (D : Int) = (M : Int) := by omega
    have l10 : IntKind.i64.wrap ((N : Int) * 10) = (N : Int) * 10 := IntWalk.i64_in _ (by omega)
    have l11 : IntKind.i64.wrap ((N : Int) * 10 + (D : Int)) = (M : Int) := by rw [IntWalk.i64_in _ (by omega)]; omega
    clear hstep hD hM hdB hget hB9 hst l9 hNl
    go_wp2
    exact ⟨⟨j + 1, by go_num, by omega, by rw [HS.out], trivial⟩, by simp [intOf]; omega⟩
   ·have HZ := Lh (show amt R = N from by rw [Gh R j (by rw [HN.out]; omega), HN.out])
    have l2 : decide ((N : Int) < 1099511627776) = false := decide_eq_false (by omega)
    rw [HZ.out] at C2
    clear hst hNl
    go_wp2_with fail
    refine (C2.out _).mono ?_
    rintro e w' ⟨rfl, hb⟩
    go_wp2
    go_ret2
    exact ⟨rfl, hb⟩
  ·have HZ := Lh (show amt R = N from by rw [← HN.out, List.take_of_length_le (by rw [HR.out]; omega)])
   have l2 : ¬ (j : Int) < (n : Int) := by omega
   rw [HZ.out] at C2
   clear hlt hNl
   go_wp2_with fail
   refine (C2.out _).mono ?_
   rintro e w' ⟨rfl, hb⟩
   go_wp2
   go_ret2
   exact ⟨rfl, hb⟩
theorem Ly (s G : ByteArray) (at' F : Nat) (E : Int) (w : World) (hs : s.size ≤ 140737488355328)  (h : at' < s.size) (hc : (s[at']'h).toNat = 69) (g : at' + 1 = s.size)
  (C1 : Hid (∀ W, Cq 203 #[.string s, .int .i64 ((at' : Int) + 1)] (.int .i64 0) W))
  (C2 : Hid (∀ W, Ct 267 #[.string G, .int .i64 E] (.float .f64 F) W)) :
  Ct 204 #[.string s, .int .i64 (at' : Nat), .string G, .int .i64 E] (.tuple #[.int .i64 (at' : Nat), .float .f64 F]) w := by
 have h1 : (s.size : Int) ≤ 140737488355328 := by omega
 have a1 : (0 : Int) ≤ (at' : Int) := by omega
 have a2 : (at' : Int) < (s.size : Int) := by omega
 have e0 : ((s[at']'h).toNat : Int) = 69 := by rw [hc]; rfl
 have t0 : decide ((at' : Int) + 1 < (s.size : Int)) = false := decide_eq_false (by omega)
 clear hs hc g
 go_enter Tryz.func204, Tryz.ntmps204
 go_wp2_with fail
 refine Sm (C1.out _) ?_
 go_wp2_with fail
 refine (C2.out _).mono ?_
 rintro e w' ⟨rfl, hb⟩
 go_wp2
 go_ret2
 exact ⟨rfl, hb⟩
theorem Ll (s G : ByteArray) (at' F : Nat) (E : Int) (w : World) (hs : s.size ≤ 140737488355328)  (B : Nat) (h : at' < s.size) (hc : (s[at']'h).toNat = 69) (g : at' + 1 < s.size) (hB : (s[at' + 1]'g).toNat = B) (n1 : B ≠ 45) (n2 : B ≠ 43)
  (C1 : Hid (∀ W, Cq 203 #[.string s, .int .i64 ((at' : Int) + 1)] (.int .i64 0) W))
  (C2 : Hid (∀ W, Ct 267 #[.string G, .int .i64 E] (.float .f64 F) W)) :
  Ct 204 #[.string s, .int .i64 (at' : Nat), .string G, .int .i64 E] (.tuple #[.int .i64 (at' : Nat), .float .f64 F]) w := by
 have h1 : (s.size : Int) ≤ 140737488355328 := by omega
 have a1 : (0 : Int) ≤ (at' : Int) := by omega
 have a2 : (at' : Int) < (s.size : Int) := by omega
 have e0 : ((s[at']'h).toNat : Int) = 69 := by rw [hc]; rfl
 have b1 : (0 : Int) ≤ (at' : Int) + 1 := by omega
 have b2 : (at' : Int) + 1 < (s.size : Int) := by omega
 have b3 : ((at' : Int) + 1).toNat = at' + 1 := by omega
 have e1 : ((s[at' + 1]'g).toNat : Int) = (B : Int) := by rw [hB]
 have e2 : ((B : Int) == 45) = false := by rw [beq_eq_false_iff_ne]; omega
 have e3 : ((B : Int) == 43) = false := by rw [beq_eq_false_iff_ne]; omega
 clear hs hc hB n1 n2
 go_enter Tryz.func204, Tryz.ntmps204
 go_wp2_with fail
 refine Sm (C1.out _) ?_
 go_wp2_with fail
 refine (C2.out _).mono ?_
 rintro e w' ⟨rfl, hb⟩
 go_wp2
 go_ret2
 exact ⟨rfl, hb⟩
theorem Kr (s G : ByteArray) (at' F : Nat) (E : Int) (w : World) (hs : s.size ≤ 140737488355328) (hE1 : -281474976710656 ≤ E) (hE2 : E ≤ 281474976710656) (B : Nat) (n : Nat) (R : List Nat) (h : at' < s.size) (hc : (s[at']'h).toNat = 69) (g : at' + 1 < s.size) (hB : (s[at' + 1]'g).toNat = B) (n1 : B ≠ 45) (n2 : B ≠ 43) (hn0 : 0 < n) (hR : R.length = n) (hd : ∀ c ∈ R, Ah c = true) (hRs : ∀ j, j < n → ∃ hj : at' + 1 + j < s.size, R[j]? = some (s[at' + 1 + j]'hj).toNat)
  (C1 : Hid (∀ W, Cq 203 #[.string s, .int .i64 ((at' : Int) + 1)] (.int .i64 (n : Nat)) W))
  (C2 : Hid (∀ W, Ct 267 #[.string G, .int .i64 (E + (amt R : Nat))] (.float .f64 F) W)) :
  Ct 204 #[.string s, .int .i64 (at' : Nat), .string G, .int .i64 E] (.tuple #[.int .i64 ((at' : Int) + 1 + (n : Int)), .float .f64 F]) w := by
 have h1 : (s.size : Int) ≤ 140737488355328 := by omega
 have a1 : (0 : Int) ≤ (at' : Int) := by omega
 have a2 : (at' : Int) < (s.size : Int) := by omega
 have e0 : ((s[at']'h).toNat : Int) = 69 := by rw [hc]; rfl
 have b1 : (0 : Int) ≤ (at' : Int) + 1 := by omega
 have b2 : (at' : Int) + 1 < (s.size : Int) := by omega
 have b3 : ((at' : Int) + 1).toNat = at' + 1 := by omega
 have e1 : ((s[at' + 1]'g).toNat : Int) = (B : Int) := by rw [hB]
 have e2 : ((B : Int) == 45) = false := by rw [beq_eq_false_iff_ne]; omega
 have e3 : ((B : Int) == 43) = false := by rw [beq_eq_false_iff_ne]; omega
 have hnl : n ≤ s.size := by
  obtain ⟨x, _⟩ := hRs (n - 1) (by omega)
  omega
 have n3 : (n : Int) ≤ (s.size : Int) := by omega
 have n4 : (0 : Int) < (n : Int) := by omega
 have HD := Lh hd
 have HR := Lh hR
 have HRS := Lh hRs
 clear hd hR hRs hn0 hnl
 clear hs hc hB n1 n2
 go_enter Tryz.func204, Tryz.ntmps204
 go_wp2_with fail
 refine Sm (C1.out _) ?_
 go_wp2
 clear e0 e1 e2 e3 n4
 go_loopw [13, 14] (fun x i wr => ∃ j : Nat, i = .int .i64 j ∧ j ≤ n ∧ x = .int .i64 (amt (R.take j) : Nat) ∧ w = wr) (fun _ i _ => n - (intOf i).toNat)
 case atStart => exact ⟨0, rfl, Nat.zero_le _, rfl, rfl⟩
 case round =>
  obtain ⟨j, rfl, hj, rfl, rfl⟩ := hrel
  obtain ⟨N, hN⟩ : ∃ N, amt (R.take j) = N := ⟨_, rfl⟩
  have hNl : N < 10995116277760 := by rw [← hN]; exact Gv _ (fun c hc => HD.out c (List.mem_of_mem_take hc))
  have hNl2 : (N : Int) < 10995116277760 := by omega
  have HN := Lh hN
  rw [hN]
  clear hN
  by_cases hlt : j < n
  ·have l1 : (j : Int) < (n : Int) := by omega
   by_cases hst : N < 1099511627776
   ·obtain ⟨hx, hget⟩ := HRS.out j hlt
    obtain ⟨B9, hB9⟩ : ∃ B9 : Nat, (s[at' + 1 + j]'hx).toNat = B9 := ⟨_, rfl⟩
    rw [hB9] at hget
    have hdB := Ca.1 (HD.out B9 (List.mem_of_getElem? hget))
    have hstep : amt (R.take (j + 1)) = N * 10 + (B9 - 48) := by
     rw [List.take_add_one, hget]
     refine (Fh _ _).trans ?_
     rw [HN.out]
     exact if_pos hst
    obtain ⟨D, hD⟩ : ∃ D : Nat, B9 - 48 = D := ⟨_, rfl⟩
    obtain ⟨M, hM⟩ : ∃ M : Nat, N * 10 + D = M := ⟨_, rfl⟩
    have HS := Lh (show amt (R.take (j + 1)) = M from by rw [hstep, hD, hM])
    have l2 : (N : Int) < 1099511627776 := by omega
    have l3 : (0 : Int) ≤ (at' : Int) + 1 + (j : Int) := by omega
    have l4 : (at' : Int) + 1 + (j : Int) < (s.size : Int) := by omega
    have l5 : ((at' : Int) + 1 + (j : Int)).toNat = at' + 1 + j := by omega
    have l6 : ((s[at' + 1 + j]'hx).toNat : Int) = (B9 : Int) := by rw [hB9]
    have l7 : IntKind.u8.wrap ((B9 : Int) - 48) = (D : Int) := by rw [IntWalk.u8_in _ (by omega)]; omega
    have l8 : IntKind.i64.wrap (D : Int) = (D : Int) := IntWalk.i64_in _ (by omega)
    have l9 : (N : Int) * 10 + (D : Int) = (M : Int) := by omega
    have l10 : IntKind.i64.wrap ((N : Int) * 10) = (N : Int) * 10 := IntWalk.i64_in _ (by omega)
    have l11 : IntKind.i64.wrap ((N : Int) * 10 + (D : Int)) = (M : Int) := by rw [IntWalk.i64_in _ (by omega)]; omega
    clear hstep hD hM hdB hget hB9 hst l9 hNl
    go_wp2
    exact ⟨⟨j + 1, by go_num, by omega, by rw [HS.out], trivial⟩, by simp [intOf]; omega⟩
   ·have HZ := Lh (show amt R = N from by rw [Gh R j (by rw [HN.out]; omega), HN.out])
    have l2 : decide ((N : Int) < 1099511627776) = false := decide_eq_false (by omega)
    rw [HZ.out] at C2
    clear hst hNl
    go_wp2_with fail
    refine (C2.out _).mono ?_
    rintro e w' ⟨rfl, hb⟩
    go_wp2
    go_ret2
    exact ⟨rfl, hb⟩
  ·have HZ := Lh (show amt R = N from by rw [← HN.out, List.take_of_length_le (by rw [HR.out]; omega)])
   have l2 : ¬ (j : Int) < (n : Int) := by omega
   rw [HZ.out] at C2
   clear hlt hNl
   go_wp2_with fail
   refine (C2.out _).mono ?_
   rintro e w' ⟨rfl, hb⟩
   go_wp2
   go_ret2
   exact ⟨rfl, hb⟩
theorem K8 (s G : ByteArray) (at' F : Nat) (E : Int) (w : World) (hs : s.size ≤ 140737488355328)  (h : at' < s.size) (hc : (s[at']'h).toNat = 69) (g : at' + 1 < s.size) (hB : (s[at' + 1]'g).toNat = 45)
  (C1 : Hid (∀ W, Cq 203 #[.string s, .int .i64 ((at' : Int) + 1 + 1)] (.int .i64 0) W))
  (C2 : Hid (∀ W, Ct 267 #[.string G, .int .i64 E] (.float .f64 F) W)) :
  Ct 204 #[.string s, .int .i64 (at' : Nat), .string G, .int .i64 E] (.tuple #[.int .i64 (at' : Nat), .float .f64 F]) w := by
 have h1 : (s.size : Int) ≤ 140737488355328 := by omega
 have a1 : (0 : Int) ≤ (at' : Int) := by omega
 have a2 : (at' : Int) < (s.size : Int) := by omega
 have e0 : ((s[at']'h).toNat : Int) = 69 := by rw [hc]; rfl
 have b1 : (0 : Int) ≤ (at' : Int) + 1 := by omega
 have b2 : (at' : Int) + 1 < (s.size : Int) := by omega
 have b3 : ((at' : Int) + 1).toNat = at' + 1 := by omega
 have e1 : ((s[at' + 1]'g).toNat : Int) = 45 := by rw [hB]; rfl
 clear hs hc hB
 go_enter Tryz.func204, Tryz.ntmps204
 go_wp2_with fail
 refine Sm (C1.out _) ?_
 go_wp2_with fail
 refine (C2.out _).mono ?_
 rintro e w' ⟨rfl, hb⟩
 go_wp2
 go_ret2
 exact ⟨rfl, hb⟩
theorem Lb (s G : ByteArray) (at' F : Nat) (E : Int) (w : World) (hs : s.size ≤ 140737488355328) (hE1 : -281474976710656 ≤ E) (hE2 : E ≤ 281474976710656) (n : Nat) (R : List Nat) (h : at' < s.size) (hc : (s[at']'h).toNat = 69) (g : at' + 1 < s.size) (hB : (s[at' + 1]'g).toNat = 45) (hn0 : 0 < n) (hR : R.length = n) (hd : ∀ c ∈ R, Ah c = true) (hRs : ∀ j, j < n → ∃ hj : at' + 2 + j < s.size, R[j]? = some (s[at' + 2 + j]'hj).toNat)
  (C1 : Hid (∀ W, Cq 203 #[.string s, .int .i64 ((at' : Int) + 1 + 1)] (.int .i64 (n : Nat)) W))
  (C2 : Hid (∀ W, Ct 267 #[.string G, .int .i64 (E + -(amt R : Nat))] (.float .f64 F) W)) :
  Ct 204 #[.string s, .int .i64 (at' : Nat), .string G, .int .i64 E] (.tuple #[.int .i64 ((at' : Int) + 1 + 1 + (n : Int)), .float .f64 F]) w := by
 have h1 : (s.size : Int) ≤ 140737488355328 := by omega
 have a1 : (0 : Int) ≤ (at' : Int) := by omega
 have a2 : (at' : Int) < (s.size : Int) := by omega
 have e0 : ((s[at']'h).toNat : Int) = 69 := by rw [hc]; rfl
 have b1 : (0 : Int) ≤ (at' : Int) + 1 := by omega
 have b2 : (at' : Int) + 1 < (s.size : Int) := by omega
 have b3 : ((at' : Int) + 1).toNat = at' + 1 := by omega
 have e1 : ((s[at' + 1]'g).toNat : Int) = 45 := by rw [hB]; rfl
 have hnl : n ≤ s.size := by
  obtain ⟨x, _⟩ := hRs (n - 1) (by omega)
  omega
 have n3 : (n : Int) ≤ (s.size : Int) := by omega
 have n4 : (0 : Int) < (n : Int) := by omega
 have HD := Lh hd
 have HR := Lh hR
 have HRS := Lh hRs
 clear hd hR hRs hn0 hnl
 clear hs hc hB
 go_enter Tryz.func204, Tryz.ntmps204
 go_wp2_with fail
 refine Sm (C1.out _) ?_
 go_wp2
 clear e0 e1 n4
 go_loopw [13, 14] (fun x i wr => ∃ j : Nat, i = .int .i64 j ∧ j ≤ n ∧ x = .int .i64 (amt (R.take j) : Nat) ∧ w = wr) (fun _ i _ => n - (intOf i).toNat)
 case atStart => exact ⟨0, rfl, Nat.zero_le _, rfl, rfl⟩
 case round =>
  obtain ⟨j, rfl, hj, rfl, rfl⟩ := hrel
  obtain ⟨N, hN⟩ : ∃ N, amt (R.take j) = N := ⟨_, rfl⟩
  have hNl : N < 10995116277760 := by rw [← hN]; exact Gv _ (fun c hc => HD.out c (List.mem_of_mem_take hc))
  have hNl2 : (N : Int) < 10995116277760 := by omega
  have HN := Lh hN
  rw [hN]
  clear hN
  by_cases hlt : j < n
  ·have l1 : (j : Int) < (n : Int) := by omega
   by_cases hst : N < 1099511627776
   ·obtain ⟨hx, hget⟩ := HRS.out j hlt
    obtain ⟨B9, hB9⟩ : ∃ B9 : Nat, (s[at' + 2 + j]'hx).toNat = B9 := ⟨_, rfl⟩
    rw [hB9] at hget
    have hdB := Ca.1 (HD.out B9 (List.mem_of_getElem? hget))
    have hstep : amt (R.take (j + 1)) = N * 10 + (B9 - 48) := by
     rw [List.take_add_one, hget]
     refine (Fh _ _).trans ?_
     rw [HN.out]
     exact if_pos hst
    obtain ⟨D, hD⟩ : ∃ D : Nat, B9 - 48 = D := ⟨_, rfl⟩
    obtain ⟨M, hM⟩ : ∃ M : Nat, N * 10 + D = M := ⟨_, rfl⟩
    have HS := Lh (show amt (R.take (j + 1)) = M from by rw [hstep, hD, hM])
    have l2 : (N : Int) < 1099511627776 := by omega
    have l3 : (0 : Int) ≤ (at' : Int) + 1 + 1 + (j : Int) := by omega
    have l4 : (at' : Int) + 1 + 1 + (j : Int) < (s.size : Int) := by omega
    have l5 : ((at' : Int) + 1 + 1 + (j : Int)).toNat = at' + 2 + j := by omega
    have l6 : ((s[at' + 2 + j]'hx).toNat : Int) = (B9 : Int) := by rw [hB9]
    have l7 : IntKind.u8.wrap ((B9 : Int) - 48) = (D : Int) := by rw [IntWalk.u8_in _ (by omega)]; omega
    have l8 : IntKind.i64.wrap (D : Int) = (D : Int) := IntWalk.i64_in _ (by omega)
    have l9 : (N : Int) * 10 + (D : Int) = (M : Int) := by omega
    have l10 : IntKind.i64.wrap ((N : Int) * 10) = (N : Int) * 10 := IntWalk.i64_in _ (by omega)
    have l11 : IntKind.i64.wrap ((N : Int) * 10 + (D : Int)) = (M : Int) := by rw [IntWalk.i64_in _ (by omega)]; omega
    clear hstep hD hM hdB hget hB9 hst l9 hNl
    go_wp2
    exact ⟨⟨j + 1, by go_num, by omega, by rw [HS.out], trivial⟩, by simp [intOf]; omega⟩
   ·have HZ := Lh (show amt R = N from by rw [Gh R j (by rw [HN.out]; omega), HN.out])
    have l2 : decide ((N : Int) < 1099511627776) = false := decide_eq_false (by omega)
    rw [HZ.out] at C2
    clear hst hNl
    go_wp2_with fail
    refine (C2.out _).mono ?_
    rintro e w' ⟨rfl, hb⟩
    go_wp2
    go_ret2
    exact ⟨rfl, hb⟩
  ·have HZ := Lh (show amt R = N from by rw [← HN.out, List.take_of_length_le (by rw [HR.out]; omega)])
   have l2 : ¬ (j : Int) < (n : Int) := by omega
   rw [HZ.out] at C2
   clear hlt hNl
   go_wp2_with fail
   refine (C2.out _).mono ?_
   rintro e w' ⟨rfl, hb⟩
   go_wp2
   go_ret2
   exact ⟨rfl, hb⟩
theorem Lw (s G : ByteArray) (at' F : Nat) (E : Int) (w : World) (hs : s.size ≤ 140737488355328)  (h : at' < s.size) (hc : (s[at']'h).toNat = 69) (g : at' + 1 < s.size) (hB : (s[at' + 1]'g).toNat = 43)
  (C1 : Hid (∀ W, Cq 203 #[.string s, .int .i64 ((at' : Int) + 1 + 1)] (.int .i64 0) W))
  (C2 : Hid (∀ W, Ct 267 #[.string G, .int .i64 E] (.float .f64 F) W)) :
  Ct 204 #[.string s, .int .i64 (at' : Nat), .string G, .int .i64 E] (.tuple #[.int .i64 (at' : Nat), .float .f64 F]) w := by
 have h1 : (s.size : Int) ≤ 140737488355328 := by omega
 have a1 : (0 : Int) ≤ (at' : Int) := by omega
 have a2 : (at' : Int) < (s.size : Int) := by omega
 have e0 : ((s[at']'h).toNat : Int) = 69 := by rw [hc]; rfl
 have b1 : (0 : Int) ≤ (at' : Int) + 1 := by omega
 have b2 : (at' : Int) + 1 < (s.size : Int) := by omega
 have b3 : ((at' : Int) + 1).toNat = at' + 1 := by omega
 have e1 : ((s[at' + 1]'g).toNat : Int) = 43 := by rw [hB]; rfl
 clear hs hc hB
 go_enter Tryz.func204, Tryz.ntmps204
 go_wp2_with fail
 refine Sm (C1.out _) ?_
 go_wp2_with fail
 refine (C2.out _).mono ?_
 rintro e w' ⟨rfl, hb⟩
 go_wp2
 go_ret2
 exact ⟨rfl, hb⟩
theorem L4 (s G : ByteArray) (at' F : Nat) (E : Int) (w : World) (hs : s.size ≤ 140737488355328) (hE1 : -281474976710656 ≤ E) (hE2 : E ≤ 281474976710656) (n : Nat) (R : List Nat) (h : at' < s.size) (hc : (s[at']'h).toNat = 69) (g : at' + 1 < s.size) (hB : (s[at' + 1]'g).toNat = 43) (hn0 : 0 < n) (hR : R.length = n) (hd : ∀ c ∈ R, Ah c = true) (hRs : ∀ j, j < n → ∃ hj : at' + 2 + j < s.size, R[j]? = some (s[at' + 2 + j]'hj).toNat)
  (C1 : Hid (∀ W, Cq 203 #[.string s, .int .i64 ((at' : Int) + 1 + 1)] (.int .i64 (n : Nat)) W))
  (C2 : Hid (∀ W, Ct 267 #[.string G, .int .i64 (E + (amt R : Nat))] (.float .f64 F) W)) :
  Ct 204 #[.string s, .int .i64 (at' : Nat), .string G, .int .i64 E] (.tuple #[.int .i64 ((at' : Int) + 1 + 1 + (n : Int)), .float .f64 F]) w := by
 have h1 : (s.size : Int) ≤ 140737488355328 := by omega
 have a1 : (0 : Int) ≤ (at' : Int) := by omega
 have a2 : (at' : Int) < (s.size : Int) := by omega
 have e0 : ((s[at']'h).toNat : Int) = 69 := by rw [hc]; rfl
 have b1 : (0 : Int) ≤ (at' : Int) + 1 := by omega
 have b2 : (at' : Int) + 1 < (s.size : Int) := by omega
 have b3 : ((at' : Int) + 1).toNat = at' + 1 := by omega
 have e1 : ((s[at' + 1]'g).toNat : Int) = 43 := by rw [hB]; rfl
 have hnl : n ≤ s.size := by
  obtain ⟨x, _⟩ := hRs (n - 1) (by omega)
  omega
 have n3 : (n : Int) ≤ (s.size : Int) := by omega
 have n4 : (0 : Int) < (n : Int) := by omega
 have HD := Lh hd
 have HR := Lh hR
 have HRS := Lh hRs
 clear hd hR hRs hn0 hnl
 clear hs hc hB
 go_enter Tryz.func204, Tryz.ntmps204
 go_wp2_with fail
 refine Sm (C1.out _) ?_
 go_wp2
 clear e0 e1 n4
 go_loopw [13, 14] (fun x i wr => ∃ j : Nat, i = .int .i64 j ∧ j ≤ n ∧ x = .int .i64 (amt (R.take j) : Nat) ∧ w = wr) (fun _ i _ => n - (intOf i).toNat)
 case atStart => exact ⟨0, rfl, Nat.zero_le _, rfl, rfl⟩
 case round =>
  obtain ⟨j, rfl, hj, rfl, rfl⟩ := hrel
  obtain ⟨N, hN⟩ : ∃ N, amt (R.take j) = N := ⟨_, rfl⟩
  have hNl : N < 10995116277760 := by rw [← hN]; exact Gv _ (fun c hc => HD.out c (List.mem_of_mem_take hc))
  have hNl2 : (N : Int) < 10995116277760 := by omega
  have HN := Lh hN
  rw [hN]
  clear hN
  by_cases hlt : j < n
  ·have l1 : (j : Int) < (n : Int) := by omega
   by_cases hst : N < 1099511627776
   ·obtain ⟨hx, hget⟩ := HRS.out j hlt
    obtain ⟨B9, hB9⟩ : ∃ B9 : Nat, (s[at' + 2 + j]'hx).toNat = B9 := ⟨_, rfl⟩
    rw [hB9] at hget
    have hdB := Ca.1 (HD.out B9 (List.mem_of_getElem? hget))
    have hstep : amt (R.take (j + 1)) = N * 10 + (B9 - 48) := by
     rw [List.take_add_one, hget]
     refine (Fh _ _).trans ?_
     rw [HN.out]
     exact if_pos hst
    obtain ⟨D, hD⟩ : ∃ D : Nat, B9 - 48 = D := ⟨_, rfl⟩
    obtain ⟨M, hM⟩ : ∃ M : Nat, N * 10 + D = M := ⟨_, rfl⟩
    have HS := Lh (show amt (R.take (j + 1)) = M from by rw [hstep, hD, hM])
    have l2 : (N : Int) < 1099511627776 := by omega
    have l3 : (0 : Int) ≤ (at' : Int) + 1 + 1 + (j : Int) := by omega
    have l4 : (at' : Int) + 1 + 1 + (j : Int) < (s.size : Int) := by omega
    have l5 : ((at' : Int) + 1 + 1 + (j : Int)).toNat = at' + 2 + j := by omega
    have l6 : ((s[at' + 2 + j]'hx).toNat : Int) = (B9 : Int) := by rw [hB9]
    have l7 : IntKind.u8.wrap ((B9 : Int) - 48) = (D : Int) := by rw [IntWalk.u8_in _ (by omega)]; omega
    have l8 : IntKind.i64.wrap (D : Int) = (D : Int) := IntWalk.i64_in _ (by omega)
    have l9 : (N : Int) * 10 + (D : Int) = (M : Int) := by omega
    have l10 : IntKind.i64.wrap ((N : Int) * 10) = (N : Int) * 10 := IntWalk.i64_in _ (by omega)
    have l11 : IntKind.i64.wrap ((N : Int) * 10 + (D : Int)) = (M : Int) := by rw [IntWalk.i64_in _ (by omega)]; omega
    clear hstep hD hM hdB hget hB9 hst l9 hNl
    go_wp2
    exact ⟨⟨j + 1, by go_num, by omega, by rw [HS.out], trivial⟩, by simp [intOf]; omega⟩
   ·have HZ := Lh (show amt R = N from by rw [Gh R j (by rw [HN.out]; omega), HN.out])
    have l2 : decide ((N : Int) < 1099511627776) = false := decide_eq_false (by omega)
    rw [HZ.out] at C2
    clear hst hNl
    go_wp2_with fail
    refine (C2.out _).mono ?_
    rintro e w' ⟨rfl, hb⟩
    go_wp2
    go_ret2
    exact ⟨rfl, hb⟩
  ·have HZ := Lh (show amt R = N from by rw [← HN.out, List.take_of_length_le (by rw [HR.out]; omega)])
   have l2 : ¬ (j : Int) < (n : Int) := by omega
   rw [HZ.out] at C2
   clear hlt hNl
   go_wp2_with fail
   refine (C2.out _).mono ?_
   rintro e w' ⟨rfl, hb⟩
   go_wp2
   go_ret2
   exact ⟨rfl, hb⟩


end
section
theorem Hy (s : ByteArray) (K j : Nat) (h : j < (Af ((bl s).drop K)).length) : ∃ hj : K + j < s.size, (Af ((bl s).drop K))[j]? = some (s[K + j]'hj).toNat := by
 have h1 := Cf ((bl s).drop K)
 rw [List.length_drop, Bj] at h1
 have hj : K + j < s.size := by omega
 refine ⟨hj, ?_⟩
 have h2 := congrArg (fun l : List Nat => l[j]?) (E8 ((bl s).drop K))
 simp only [List.getElem?_append_left h, List.getElem?_drop] at h2
 rw [h2, Cg s (K + j) hj]
theorem E3 {c : Nat} {r : List Nat} (h : Af (unsg r) = []) : exR (c :: r) = c :: r ∧ exV (c :: r) = 0 := by
 have : Dq (c :: r) = false := by
  unfold Dq
  rw [List.tail_cons, h]
  simp
 unfold exR exV
 rw [this]
 exact ⟨rfl, rfl⟩
theorem H6 {c : Nat} {r : List Nat} (hc : c = 101 ∨ c = 69) (h : Af (unsg r) ≠ []) : exR (c :: r) = Ai (unsg r) ∧ exV (c :: r) = if Ha r = true then -(amt (Af (unsg r)) : Int) else (amt (Af (unsg r)) : Int) := by
 have : Dq (c :: r) = true := by
  unfold Dq
  rw [List.tail_cons]
  cases hr : Af (unsg r) with
  | nil => exact absurd hr h
  | cons a b => rcases hc with rfl | rfl <;> simp
 unfold exR exV
 rw [this]
 exact ⟨rfl, rfl⟩
theorem Aat {c : Nat} {r : List Nat} (h1 : c ≠ 101) (h2 : c ≠ 69) : exR (c :: r) = c :: r ∧ exV (c :: r) = 0 := by
 have : Dq (c :: r) = false := by
  unfold Dq
  simp [h1, h2]
 unfold exR exV
 rw [this]
 exact ⟨rfl, rfl⟩
theorem Ff {l : List Nat} {k c : Nat} {r : List Nat} (h : l.drop k = c :: r) : l.drop (k + 1) = r ∧ l[k]? = some c ∧ k < l.length := by
 have hk : k < l.length := by
  rcases Nat.lt_or_ge k l.length with h1 | h1
  ·exact h1
  ·rw [List.drop_of_length_le h1] at h
   cases h
 rw [Qi l k hk] at h
 injection h with h1 h2
 exact ⟨h2, by rw [List.getElem?_eq_getElem hk, h1], hk⟩
theorem Gr {s : ByteArray} {k c : Nat} (h : (bl s)[k]? = some c) : ∃ hk : k < s.size, (s[k]'hk).toNat = c := by
 have hk : k < s.size := by
  rw [← Bj s]
  exact (List.getElem?_eq_some_iff.1 h).1
 refine ⟨hk, ?_⟩
 rw [Cg s k hk] at h
 exact Option.some.inj h
theorem Fx (s : ByteArray) (k : Nat) (w : World) (hs : s.size ≤ 140737488355328) (hk : k ≤ 140737488355320) : Cq 203 #[.string s, .int .i64 ((k : Int) + 1)] (.int .i64 ((Af ((bl s).drop (k + 1))).length : Nat)) w := by
 have := M6 s (k + 1) w hs (by omega)
 rw [show ((k + 1 : Nat) : Int) = (k : Int) + 1 by omega] at this
 exact this
theorem E2 (s : ByteArray) (k : Nat) (w : World) (hs : s.size ≤ 140737488355328) (hk : k ≤ 140737488355320) : Cq 203 #[.string s, .int .i64 ((k : Int) + 1 + 1)] (.int .i64 ((Af ((bl s).drop (k + 2))).length : Nat)) w := by
 have := M6 s (k + 2) w hs (by omega)
 rw [show ((k + 2 : Nat) : Int) = (k : Int) + 1 + 1 by omega] at this
 exact this
theorem Xv (s : ByteArray) (at' : Nat) (f r : List Nat) (E : Int) (w : World) (hs : s.size ≤ 140737488355320) (hd : ∀ c ∈ f, Ah c = true) (hf : f.length ≤ 281474976710656) (hE1 : -281474976710656 ≤ E) (hE2 : E ≤ 281474976710656) (hT : (bl s).drop at' = 101 :: r) :
  Ct 204 #[.string s, .int .i64 (at' : Nat), .string (Ad f), .int .i64 E] (.tuple #[.int .i64 ((s.size - (exR (101 :: r)).length : Nat) : Nat), .float .f64 (Bq (num 10 f) (E + exV (101 :: r)))]) w := by
 have hbl := Bj s
 have hlen := congrArg List.length hT
 rw [List.length_drop, hbl, List.length_cons] at hlen
 obtain ⟨hr, hc, _⟩ := Ff hT
 obtain ⟨h, hB⟩ := Gr hc
 have hX := Yi (101 :: r)
 have C2 := fun W => Fc f (E + exV (101 :: r)) W hd hf (by omega)
 cases r with
 | nil =>
  have g : at' + 1 = s.size := by
   rw [List.length_nil] at hlen
   omega
  have hdr := hr
  have hun : unsg ([]) = [] := rfl
  by_cases h0 : Af ([]) = []
  ·obtain ⟨x1, x2⟩ := E3 (c := 101) (r := []) (by rw [hun]; exact h0)
   rw [x2, Int.add_zero] at C2
   rw [x1, x2, Int.add_zero, show s.size - (101 :: []).length = at' by rw [List.length_cons]; omega]
   exact Le (s := s) (G := Ad f) (at' := at') (E := E) (w := w) (hs := by omega) (h := h) (hc := hB) (g := g) (C1 := Lh (fun W => by
    have := Fx s at' W (by omega) (by omega)
    rw [hdr, h0] at this
    exact this)) (C2 := Lh C2)
  ·exact absurd rfl h0
 | cons d r2 =>
  rw [List.length_cons] at hlen
  obtain ⟨hr2, hc2, _⟩ := Ff hr
  obtain ⟨g, hB2⟩ := Gr hc2
  by_cases d1 : d = 45
  ·subst d1
   have hdr : (bl s).drop (at' + 2) = r2 := hr2
   have hsg : Ha (45 :: r2) = true := rfl
   have hlc : (45 :: r2).length = r2.length + 1 := rfl
   have hun : unsg (45 :: r2) = r2 := rfl
   by_cases h0 : Af r2 = []
   ·obtain ⟨x1, x2⟩ := E3 (c := 101) (r := 45 :: r2) (by rw [hun]; exact h0)
    rw [x2, Int.add_zero] at C2
    rw [x1, x2, Int.add_zero, show s.size - (101 :: 45 :: r2).length = at' by rw [List.length_cons]; omega]
    exact Jy (s := s) (G := Ad f) (at' := at') (E := E) (w := w) (hs := by omega) (h := h) (hc := hB) (g := g) (hB := hB2) (C1 := Lh (fun W => by
     have := E2 s at' W (by omega) (by omega)
     rw [hdr, h0] at this
     exact this)) (C2 := Lh C2)
   ·obtain ⟨x1, x2⟩ := H6 (c := 101) (r := 45 :: r2) (by omega) (by rw [hun]; exact h0)
    rw [hsg] at x2
    rw [if_pos rfl] at x2
    rw [hun] at x1 x2
    rw [x2] at C2
    have hn := Cf r2
    have hn0 := List.length_pos_iff.2 h0
    rw [x1, x2, show ((s.size - (Ai r2).length : Nat) : Int) = (at' : Int) + 1 + 1 + ((Af r2).length : Nat) by omega]
    exact Jj (s := s) (G := Ad f) (at' := at') (E := E) (w := w) (n := (Af r2).length) (R := Af r2) (hs := by omega) (hE1 := hE1) (hE2 := hE2) (h := h) (hc := hB) (g := g) (hB := hB2) (hn0 := hn0) (hR := rfl) (hd := Br _) (hRs := fun j hj => by
     have := Hy s (at' + 2) j (by rw [hdr]; exact hj)
     rw [hdr] at this
     exact this) (C1 := Lh (fun W => by
     have := E2 s at' W (by omega) (by omega)
     rw [hdr] at this
     exact this)) (C2 := Lh C2)
  ·by_cases d2 : d = 43
   ·subst d2
    have hdr : (bl s).drop (at' + 2) = r2 := hr2
    have hsg : Ha (43 :: r2) = false := rfl
    have hlc : (43 :: r2).length = r2.length + 1 := rfl
    have hun : unsg (43 :: r2) = r2 := rfl
    by_cases h0 : Af r2 = []
    ·obtain ⟨x1, x2⟩ := E3 (c := 101) (r := 43 :: r2) (by rw [hun]; exact h0)
     rw [x2, Int.add_zero] at C2
     rw [x1, x2, Int.add_zero, show s.size - (101 :: 43 :: r2).length = at' by rw [List.length_cons]; omega]
     exact Lf (s := s) (G := Ad f) (at' := at') (E := E) (w := w) (hs := by omega) (h := h) (hc := hB) (g := g) (hB := hB2) (C1 := Lh (fun W => by
      have := E2 s at' W (by omega) (by omega)
      rw [hdr, h0] at this
      exact this)) (C2 := Lh C2)
    ·obtain ⟨x1, x2⟩ := H6 (c := 101) (r := 43 :: r2) (by omega) (by rw [hun]; exact h0)
     rw [hsg] at x2
     rw [if_neg (by simp)] at x2
     rw [hun] at x1 x2
     rw [x2] at C2
     have hn := Cf r2
     have hn0 := List.length_pos_iff.2 h0
     rw [x1, x2, show ((s.size - (Ai r2).length : Nat) : Int) = (at' : Int) + 1 + 1 + ((Af r2).length : Nat) by omega]
     exact K9 (s := s) (G := Ad f) (at' := at') (E := E) (w := w) (n := (Af r2).length) (R := Af r2) (hs := by omega) (hE1 := hE1) (hE2 := hE2) (h := h) (hc := hB) (g := g) (hB := hB2) (hn0 := hn0) (hR := rfl) (hd := Br _) (hRs := fun j hj => by
      have := Hy s (at' + 2) j (by rw [hdr]; exact hj)
      rw [hdr] at this
      exact this) (C1 := Lh (fun W => by
      have := E2 s at' W (by omega) (by omega)
      rw [hdr] at this
      exact this)) (C2 := Lh C2)
   ·have hdr := hr
    have hsg : Ha (d :: r2) = false := by unfold Ha; rw [List.head?_cons, beq_eq_false_iff_ne]; exact fun e => d1 (Option.some.inj e)
    have hlc : (d :: r2).length = r2.length + 1 := rfl
    have hun : unsg (d :: r2) = d :: r2 := by unfold unsg; rw [if_neg (by simp [d1, d2])]
    by_cases h0 : Af (d :: r2) = []
    ·obtain ⟨x1, x2⟩ := E3 (c := 101) (r := d :: r2) (by rw [hun]; exact h0)
     rw [x2, Int.add_zero] at C2
     rw [x1, x2, Int.add_zero, show s.size - (101 :: d :: r2).length = at' by rw [List.length_cons]; omega]
     exact J6 (s := s) (G := Ad f) (at' := at') (E := E) (w := w) (hs := by omega) (h := h) (hc := hB) (B := d) (g := g) (hB := hB2) (n1 := d1) (n2 := d2) (C1 := Lh (fun W => by
      have := Fx s at' W (by omega) (by omega)
      rw [hdr, h0] at this
      exact this)) (C2 := Lh C2)
    ·obtain ⟨x1, x2⟩ := H6 (c := 101) (r := d :: r2) (by omega) (by rw [hun]; exact h0)
     rw [hsg] at x2
     rw [if_neg (by simp)] at x2
     rw [hun] at x1 x2
     rw [x2] at C2
     have hn := Cf (d :: r2)
     have hn0 := List.length_pos_iff.2 h0
     rw [x1, x2, show ((s.size - (Ai (d :: r2)).length : Nat) : Int) = (at' : Int) + 1 + ((Af (d :: r2)).length : Nat) by omega]
     exact Jz (s := s) (G := Ad f) (at' := at') (E := E) (w := w) (n := (Af (d :: r2)).length) (R := Af (d :: r2)) (hs := by omega) (hE1 := hE1) (hE2 := hE2) (h := h) (hc := hB) (B := d) (g := g) (hB := hB2) (n1 := d1) (n2 := d2) (hn0 := hn0) (hR := rfl) (hd := Br _) (hRs := fun j hj => by
      have := Hy s (at' + 1) j (by rw [hdr]; exact hj)
      rw [hdr] at this
      exact this) (C1 := Lh (fun W => by
      have := Fx s at' W (by omega) (by omega)
      rw [hdr] at this
      exact this)) (C2 := Lh C2)
theorem Aam (s : ByteArray) (at' : Nat) (f r : List Nat) (E : Int) (w : World) (hs : s.size ≤ 140737488355320) (hd : ∀ c ∈ f, Ah c = true) (hf : f.length ≤ 281474976710656) (hE1 : -281474976710656 ≤ E) (hE2 : E ≤ 281474976710656) (hT : (bl s).drop at' = 69 :: r) :
  Ct 204 #[.string s, .int .i64 (at' : Nat), .string (Ad f), .int .i64 E] (.tuple #[.int .i64 ((s.size - (exR (69 :: r)).length : Nat) : Nat), .float .f64 (Bq (num 10 f) (E + exV (69 :: r)))]) w := by
 have hbl := Bj s
 have hlen := congrArg List.length hT
 rw [List.length_drop, hbl, List.length_cons] at hlen
 obtain ⟨hr, hc, _⟩ := Ff hT
 obtain ⟨h, hB⟩ := Gr hc
 have hX := Yi (69 :: r)
 have C2 := fun W => Fc f (E + exV (69 :: r)) W hd hf (by omega)
 cases r with
 | nil =>
  have g : at' + 1 = s.size := by
   rw [List.length_nil] at hlen
   omega
  have hdr := hr
  have hun : unsg ([]) = [] := rfl
  by_cases h0 : Af ([]) = []
  ·obtain ⟨x1, x2⟩ := E3 (c := 69) (r := []) (by rw [hun]; exact h0)
   rw [x2, Int.add_zero] at C2
   rw [x1, x2, Int.add_zero, show s.size - (69 :: []).length = at' by rw [List.length_cons]; omega]
   exact Ly (s := s) (G := Ad f) (at' := at') (E := E) (w := w) (hs := by omega) (h := h) (hc := hB) (g := g) (C1 := Lh (fun W => by
    have := Fx s at' W (by omega) (by omega)
    rw [hdr, h0] at this
    exact this)) (C2 := Lh C2)
  ·exact absurd rfl h0
 | cons d r2 =>
  rw [List.length_cons] at hlen
  obtain ⟨hr2, hc2, _⟩ := Ff hr
  obtain ⟨g, hB2⟩ := Gr hc2
  by_cases d1 : d = 45
  ·subst d1
   have hdr : (bl s).drop (at' + 2) = r2 := hr2
   have hsg : Ha (45 :: r2) = true := rfl
   have hlc : (45 :: r2).length = r2.length + 1 := rfl
   have hun : unsg (45 :: r2) = r2 := rfl
   by_cases h0 : Af r2 = []
   ·obtain ⟨x1, x2⟩ := E3 (c := 69) (r := 45 :: r2) (by rw [hun]; exact h0)
    rw [x2, Int.add_zero] at C2
    rw [x1, x2, Int.add_zero, show s.size - (69 :: 45 :: r2).length = at' by rw [List.length_cons]; omega]
    exact K8 (s := s) (G := Ad f) (at' := at') (E := E) (w := w) (hs := by omega) (h := h) (hc := hB) (g := g) (hB := hB2) (C1 := Lh (fun W => by
     have := E2 s at' W (by omega) (by omega)
     rw [hdr, h0] at this
     exact this)) (C2 := Lh C2)
   ·obtain ⟨x1, x2⟩ := H6 (c := 69) (r := 45 :: r2) (by omega) (by rw [hun]; exact h0)
    rw [hsg] at x2
    rw [if_pos rfl] at x2
    rw [hun] at x1 x2
    rw [x2] at C2
    have hn := Cf r2
    have hn0 := List.length_pos_iff.2 h0
    rw [x1, x2, show ((s.size - (Ai r2).length : Nat) : Int) = (at' : Int) + 1 + 1 + ((Af r2).length : Nat) by omega]
    exact Lb (s := s) (G := Ad f) (at' := at') (E := E) (w := w) (n := (Af r2).length) (R := Af r2) (hs := by omega) (hE1 := hE1) (hE2 := hE2) (h := h) (hc := hB) (g := g) (hB := hB2) (hn0 := hn0) (hR := rfl) (hd := Br _) (hRs := fun j hj => by
     have := Hy s (at' + 2) j (by rw [hdr]; exact hj)
     rw [hdr] at this
     exact this) (C1 := Lh (fun W => by
     have := E2 s at' W (by omega) (by omega)
     rw [hdr] at this
     exact this)) (C2 := Lh C2)
  ·by_cases d2 : d = 43
   ·subst d2
    have hdr : (bl s).drop (at' + 2) = r2 := hr2
    have hsg : Ha (43 :: r2) = false := rfl
    have hlc : (43 :: r2).length = r2.length + 1 := rfl
    have hun : unsg (43 :: r2) = r2 := rfl
    by_cases h0 : Af r2 = []
    ·obtain ⟨x1, x2⟩ := E3 (c := 69) (r := 43 :: r2) (by rw [hun]; exact h0)
     rw [x2, Int.add_zero] at C2
     rw [x1, x2, Int.add_zero, show s.size - (69 :: 43 :: r2).length = at' by rw [List.length_cons]; omega]
     exact Lw (s := s) (G := Ad f) (at' := at') (E := E) (w := w) (hs := by omega) (h := h) (hc := hB) (g := g) (hB := hB2) (C1 := Lh (fun W => by
      have := E2 s at' W (by omega) (by omega)
      rw [hdr, h0] at this
      exact this)) (C2 := Lh C2)
    ·obtain ⟨x1, x2⟩ := H6 (c := 69) (r := 43 :: r2) (by omega) (by rw [hun]; exact h0)
     rw [hsg] at x2
     rw [if_neg (by simp)] at x2
     rw [hun] at x1 x2
     rw [x2] at C2
     have hn := Cf r2
     have hn0 := List.length_pos_iff.2 h0
     rw [x1, x2, show ((s.size - (Ai r2).length : Nat) : Int) = (at' : Int) + 1 + 1 + ((Af r2).length : Nat) by omega]
     exact L4 (s := s) (G := Ad f) (at' := at') (E := E) (w := w) (n := (Af r2).length) (R := Af r2) (hs := by omega) (hE1 := hE1) (hE2 := hE2) (h := h) (hc := hB) (g := g) (hB := hB2) (hn0 := hn0) (hR := rfl) (hd := Br _) (hRs := fun j hj => by
      have := Hy s (at' + 2) j (by rw [hdr]; exact hj)
      rw [hdr] at this
      exact this) (C1 := Lh (fun W => by
      have := E2 s at' W (by omega) (by omega)
      rw [hdr] at this
      exact this)) (C2 := Lh C2)
   ·have hdr := hr
    have hsg : Ha (d :: r2) = false := by unfold Ha; rw [List.head?_cons, beq_eq_false_iff_ne]; exact fun e => d1 (Option.some.inj e)
    have hlc : (d :: r2).length = r2.length + 1 := rfl
    have hun : unsg (d :: r2) = d :: r2 := by unfold unsg; rw [if_neg (by simp [d1, d2])]
    by_cases h0 : Af (d :: r2) = []
    ·obtain ⟨x1, x2⟩ := E3 (c := 69) (r := d :: r2) (by rw [hun]; exact h0)
     rw [x2, Int.add_zero] at C2
     rw [x1, x2, Int.add_zero, show s.size - (69 :: d :: r2).length = at' by rw [List.length_cons]; omega]
     exact Ll (s := s) (G := Ad f) (at' := at') (E := E) (w := w) (hs := by omega) (h := h) (hc := hB) (B := d) (g := g) (hB := hB2) (n1 := d1) (n2 := d2) (C1 := Lh (fun W => by
      have := Fx s at' W (by omega) (by omega)
      rw [hdr, h0] at this
      exact this)) (C2 := Lh C2)
    ·obtain ⟨x1, x2⟩ := H6 (c := 69) (r := d :: r2) (by omega) (by rw [hun]; exact h0)
     rw [hsg] at x2
     rw [if_neg (by simp)] at x2
     rw [hun] at x1 x2
     rw [x2] at C2
     have hn := Cf (d :: r2)
     have hn0 := List.length_pos_iff.2 h0
     rw [x1, x2, show ((s.size - (Ai (d :: r2)).length : Nat) : Int) = (at' : Int) + 1 + ((Af (d :: r2)).length : Nat) by omega]
     exact Kr (s := s) (G := Ad f) (at' := at') (E := E) (w := w) (n := (Af (d :: r2)).length) (R := Af (d :: r2)) (hs := by omega) (hE1 := hE1) (hE2 := hE2) (h := h) (hc := hB) (B := d) (g := g) (hB := hB2) (n1 := d1) (n2 := d2) (hn0 := hn0) (hR := rfl) (hd := Br _) (hRs := fun j hj => by
      have := Hy s (at' + 1) j (by rw [hdr]; exact hj)
      rw [hdr] at this
      exact this) (C1 := Lh (fun W => by
      have := Fx s at' W (by omega) (by omega)
      rw [hdr] at this
      exact this)) (C2 := Lh C2)
theorem Abd (s : ByteArray) (at' : Nat) (f : List Nat) (E : Int) (w : World) (hs : s.size ≤ 140737488355320) (ha : at' ≤ s.size) (hd : ∀ c ∈ f, Ah c = true) (hf : f.length ≤ 281474976710656) (hE1 : -281474976710656 ≤ E) (hE2 : E ≤ 281474976710656) :
  Ct 204 #[.string s, .int .i64 (at' : Nat), .string (Ad f), .int .i64 E] (.tuple #[.int .i64 ((s.size - (exR ((bl s).drop at')).length : Nat) : Nat), .float .f64 (Bq (num 10 f) (E + exV ((bl s).drop at')))]) w := by
 have hbl := Bj s
 obtain ⟨T, hT⟩ : ∃ T, (bl s).drop at' = T := ⟨_, rfl⟩
 have hlen := congrArg List.length hT
 rw [List.length_drop, hbl] at hlen
 rw [hT]
 cases T with
 | nil =>
  rw [List.length_nil] at hlen
  have e1 : exV [] = 0 := rfl
  have e2 : exR [] = [] := rfl
  rw [e1, e2, List.length_nil, Int.add_zero, show s.size - 0 = at' by omega]
  exact Ab7 (s := s) (G := Ad f) (at' := at') (E := E) (w := w) (hs := by omega) (ha := by omega) (C2 := Lh (fun W => Fc f E W hd hf (by omega)))
 | cons c r =>
  by_cases h1 : c = 101
  ·subst h1
   exact Xv s at' f r E w hs hd hf hE1 hE2 hT
  ·by_cases h2 : c = 69
   ·subst h2
    exact Aam s at' f r E w hs hd hf hE1 hE2 hT
   ·obtain ⟨x1, x2⟩ := Aat (r := r) h1 h2
    obtain ⟨_, hc, _⟩ := Ff hT
    obtain ⟨h, hB⟩ := Gr hc
    rw [List.length_cons] at hlen
    rw [x1, x2, Int.add_zero, show s.size - (c :: r).length = at' by rw [List.length_cons]; omega]
    exact Te (s := s) (G := Ad f) (at' := at') (E := E) (w := w) (B := c) (hs := by omega) (h := h) (hB := hB) (n1 := h1) (n2 := h2) (C2 := Lh (fun W => Fc f E W hd hf (by omega)))


end
section
theorem Uy (s : ByteArray) (a : Nat) (w : World) (_hs : s.size ≤ 140737488355328) (g : a = s.size) (ha0 : a = 0)
    (C1 : Hid (∀ W, Cq 203 #[.string s, .int .i64 0] (.int .i64 (a : Nat)) W))
 :
    Ct 116 #[.string s] (.tuple #[.int .i64 0, .float .f64 0]) w := by
  have a1 : (0 : Int) ≤ (a : Int) := by omega
  have a2 : ¬ (a : Int) < (s.size : Int) := by omega
  have a3 : (a : Int) ≤ (s.size : Int) := by omega
  have e2 : ((a : Int) == 0) = true := by rw [beq_iff_eq]; omega
  clear ha0 g
  go_enter Tryz.func116, Tryz.ntmps116
  go_wp2_with fail
  refine Sm (C1.out _) ?_
  go_wp2
  go_ret2
  exact ⟨rfl, Below.refl _ _⟩
theorem U3 (s : ByteArray) (a F : Nat) (p : Int) (w : World) (hs : s.size ≤ 140737488355328) (g : a = s.size) (ha0 : 0 < a)
  (C1 : Hid (∀ W, Cq 203 #[.string s, .int .i64 0] (.int .i64 (a : Nat)) W))
  (C4 : Hid (∀ W, Ct 204 #[.string s, .int .i64 ((a : Nat)), .string (s.extract 0 a), .int .i64 (0)] (.tuple #[.int .i64 p, .float .f64 F]) W)) :
  Ct 116 #[.string s] (.tuple #[.int .i64 p, .float .f64 F]) w := by
 have h1 : (s.size : Int) ≤ 140737488355328 := by omega
 have a1 : (0 : Int) ≤ (a : Int) := by omega
 have a2 : ¬ (a : Int) < (s.size : Int) := by omega
 have a3 : (a : Int) ≤ (s.size : Int) := by omega
 have e2 : ((a : Int) == 0) = false := by rw [beq_eq_false_iff_ne]; omega
 clear hs ha0 g
 go_enter Tryz.func116, Tryz.ntmps116
 go_wp2_with fail
 refine Sm (C1.out _) ?_
 go_wp2_with fail
 refine (C4.out _).mono ?_
 rintro e w' ⟨rfl, hb⟩
 go_wp2
 go_ret2
 exact ⟨rfl, hb⟩
theorem Op (s : ByteArray) (a B : Nat) (w : World) (hs : s.size ≤ 140737488355328) (g : a < s.size) (hB : (s[a]'g).toNat = B) (n1 : B ≠ 46) (ha0 : a = 0)
    (C1 : Hid (∀ W, Cq 203 #[.string s, .int .i64 0] (.int .i64 (a : Nat)) W))
 :
    Ct 116 #[.string s] (.tuple #[.int .i64 0, .float .f64 0]) w := by
  have h1 : (s.size : Int) ≤ 140737488355328 := by omega
  have a1 : (0 : Int) ≤ (a : Int) := by omega
  have a2 : (a : Int) < (s.size : Int) := by omega
  have a3 : (a : Int) ≤ (s.size : Int) := by omega
  have e0 : ((s[a]'g).toNat : Int) = (B : Int) := by rw [hB]
  have e1 : ((B : Int) == 46) = false := by rw [beq_eq_false_iff_ne]; omega
  have e2 : ((a : Int) == 0) = true := by rw [beq_iff_eq]; omega
  clear hs ha0 hB n1
  go_enter Tryz.func116, Tryz.ntmps116
  go_wp2_with fail
  refine Sm (C1.out _) ?_
  go_wp2
  go_ret2
  exact ⟨rfl, Below.refl _ _⟩
theorem O8 (s : ByteArray) (a B F : Nat) (p : Int) (w : World) (hs : s.size ≤ 140737488355328) (g : a < s.size) (hB : (s[a]'g).toNat = B) (n1 : B ≠ 46) (ha0 : 0 < a)
  (C1 : Hid (∀ W, Cq 203 #[.string s, .int .i64 0] (.int .i64 (a : Nat)) W))
  (C4 : Hid (∀ W, Ct 204 #[.string s, .int .i64 ((a : Nat)), .string (s.extract 0 a), .int .i64 (0)] (.tuple #[.int .i64 p, .float .f64 F]) W)) :
  Ct 116 #[.string s] (.tuple #[.int .i64 p, .float .f64 F]) w := by
 have h1 : (s.size : Int) ≤ 140737488355328 := by omega
 have a1 : (0 : Int) ≤ (a : Int) := by omega
 have a2 : (a : Int) < (s.size : Int) := by omega
 have a3 : (a : Int) ≤ (s.size : Int) := by omega
 have e0 : ((s[a]'g).toNat : Int) = (B : Int) := by rw [hB]
 have e1 : ((B : Int) == 46) = false := by rw [beq_eq_false_iff_ne]; omega
 have e2 : ((a : Int) == 0) = false := by rw [beq_eq_false_iff_ne]; omega
 clear hs ha0 hB n1
 go_enter Tryz.func116, Tryz.ntmps116
 go_wp2_with fail
 refine Sm (C1.out _) ?_
 go_wp2_with fail
 refine (C4.out _).mono ?_
 rintro e w' ⟨rfl, hb⟩
 go_wp2
 go_ret2
 exact ⟨rfl, hb⟩
theorem Tq (s : ByteArray) (a b : Nat) (w : World) (hs : s.size ≤ 140737488355328) (g : a < s.size) (hB : (s[a]'g).toNat = 46) (ha0 : a = 0) (hb0 : b = 0) (hb : a + 1 + b ≤ s.size)
    (C1 : Hid (∀ W, Cq 203 #[.string s, .int .i64 0] (.int .i64 (a : Nat)) W))
    (C3 : Hid (∀ W, Cq 203 #[.string s, .int .i64 ((a : Int) + 1)] (.int .i64 (b : Nat)) W))
 :
    Ct 116 #[.string s] (.tuple #[.int .i64 0, .float .f64 0]) w := by
  have h1 : (s.size : Int) ≤ 140737488355328 := by omega
  have a1 : (0 : Int) ≤ (a : Int) := by omega
  have a2 : (a : Int) < (s.size : Int) := by omega
  have a3 : (a : Int) ≤ (s.size : Int) := by omega
  have e0 : ((s[a]'g).toNat : Int) = 46 := by rw [hB]; rfl
  have b1 : (a : Int) + 1 + (b : Int) ≤ (s.size : Int) := by omega
  have b2 : (0 : Int) ≤ (b : Int) := by omega
  have b3 : ((a : Int) + 1).toNat = a + 1 := by omega
  have b4 : ((a : Int) + 1 + (b : Int)).toNat = a + 1 + b := by omega
  have e2 : ¬ (0 : Int) < (a : Int) + (b : Int) := by omega
  have e3 : ((a : Int) == 0) = true := by rw [beq_iff_eq]; omega
  clear hs hB hb ha0 hb0
  go_enter Tryz.func116, Tryz.ntmps116
  go_wp2_with fail
  refine Sm (C1.out _) ?_
  go_wp2_with fail
  refine Sm (C3.out _) ?_
  go_wp2
  go_ret2
  exact ⟨rfl, Below.refl _ _⟩
theorem U7 (s : ByteArray) (a b F : Nat) (p : Int) (w : World) (hs : s.size ≤ 140737488355328) (g : a < s.size) (hB : (s[a]'g).toNat = 46) (h0 : 0 < a + b) (hb : a + 1 + b ≤ s.size)
  (C1 : Hid (∀ W, Cq 203 #[.string s, .int .i64 0] (.int .i64 (a : Nat)) W))
  (C3 : Hid (∀ W, Cq 203 #[.string s, .int .i64 ((a : Int) + 1)] (.int .i64 (b : Nat)) W))
  (C4 : Hid (∀ W, Ct 204 #[.string s, .int .i64 ((a : Int) + 1 + (b : Int)), .string (s.extract 0 a ++ s.extract (a + 1) (a + 1 + b)), .int .i64 (-(b : Int))] (.tuple #[.int .i64 p, .float .f64 F]) W)) :
  Ct 116 #[.string s] (.tuple #[.int .i64 p, .float .f64 F]) w := by
 have h1 : (s.size : Int) ≤ 140737488355328 := by omega
 have a1 : (0 : Int) ≤ (a : Int) := by omega
 have a2 : (a : Int) < (s.size : Int) := by omega
 have a3 : (a : Int) ≤ (s.size : Int) := by omega
 have e0 : ((s[a]'g).toNat : Int) = 46 := by rw [hB]; rfl
 have b1 : (a : Int) + 1 + (b : Int) ≤ (s.size : Int) := by omega
 have b2 : (0 : Int) ≤ (b : Int) := by omega
 have b3 : ((a : Int) + 1).toNat = a + 1 := by omega
 have b4 : ((a : Int) + 1 + (b : Int)).toNat = a + 1 + b := by omega
 have e2 : (0 : Int) < (a : Int) + (b : Int) := by omega
 have q3 : ¬ 9223372036854775807 < (s.extract 0 a).size + (s.extract (a + 1) (a + 1 + b)).size := by
  rw [ByteArray.size_extract, ByteArray.size_extract]
  omega
 clear hs hB hb h0
 go_enter Tryz.func116, Tryz.ntmps116
 go_wp2_with fail
 refine Sm (C1.out _) ?_
 go_wp2_with fail
 refine Sm (C3.out _) ?_
 go_wp2_with fail
 refine (C4.out _).mono ?_
 rintro e w' ⟨rfl, hb⟩
 go_wp2
 go_ret2
 exact ⟨rfl, hb⟩
theorem Vz (l : List Nat) : l.drop (Af l).length = Ai l := by
 conv => lhs; arg 2; rw [← E8 l]
 rw [List.drop_left]
theorem On (l : List Nat) : l.take (Af l).length = Af l := by
 conv => lhs; arg 2; rw [← E8 l]
 rw [List.take_left]
theorem Aau (s : ByteArray) (w : World) (hs : s.size ≤ 140737488355328) : Cq 203 #[.string s, .int .i64 0] (.int .i64 ((Af (bl s)).length : Nat)) w := by
 have := M6 s 0 w hs (by omega)
 rw [List.drop_zero] at this
 exact this
theorem Ais (s : ByteArray) (i n : Nat) (h : i + n ≤ s.size) : s.extract i (i + n) = Ad (((bl s).drop i).take n) := by
 have h1 : (s.extract i s.size).extract 0 n = s.extract i (i + n) := by
  rw [ByteArray.extract_extract, Nat.add_zero, Nat.min_eq_left (by omega)]
 rw [← h1, Jm, Gj, Al (fun c hc => J7 s c (List.mem_of_mem_drop hc))]
def lgN (l : List Nat) : Nat := if dB l = true then l.length - (dR l).length else 0
def lgV (l : List Nat) : Nat := if dB l = true then dV l else 0
theorem Rk (s : ByteArray) (w : World) (hs : s.size ≤ 140737488355320) :
  Ct 116 #[.string s] (.tuple #[.int .i64 (lgN (bl s) : Nat), .float .f64 (lgV (bl s))]) w := by
 obtain ⟨l, hl⟩ : ∃ l, bl s = l := ⟨_, rfl⟩
 have hbl := Bj s
 have hlt := J7 s
 have C1 := Lh (fun W => Aau s W (by omega))
 have C4 := fun at' f E W ha hd hf h1 h2 => Abd s at' f E W hs ha hd hf h1 h2
 have C3 := fun k W hk => Fx s k W (by omega) hk
 have hra := Cf l
 have hdr := Vz l
 have htk := On l
 have hex : s.extract 0 (Af l).length = Ad (Af l) := by rw [Gj, hl, htk]
 have hmid := fun i n h => Ais s i n h
 rw [hl] at C1 hbl hlt C4 C3 hmid ⊢
 have r256 : ∀ c ∈ Af l, Ah c = true := Br l
 have nodot : Fz (Ai l) = false → dF l = [] ∧ dT l = Ai l := fun h => by
  unfold dF dT
  rw [h]
  exact ⟨rfl, rfl⟩
 have zero : dW l = [] → dF l = [] → dB l = false := fun h1 h2 => by
  unfold dB
  rw [h1, h2]
  rfl
 have pos1 : dW l ≠ [] → dB l = true := fun h => by
  unfold dB
  cases hw : dW l with
  | nil => exact absurd hw h
  | cons => rfl
 have pos2 : dF l ≠ [] → dB l = true := fun h => by
  unfold dB
  cases hw : dF l with
  | nil => exact absurd hw h
  | cons => simp
 obtain ⟨A, hA⟩ : ∃ A, Ai l = A := ⟨_, rfl⟩
 have T0 := fun (h : Fz (Ai l) = false) (h2 : dW l ≠ []) => (by
  obtain ⟨e1, e2⟩ := nodot h
  have := fun W => C4 (Af l).length (Af l) 0 W (by omega) r256 (by omega) (by omega) (by omega)
  have ev : dV l = Bq (num 10 (Af l)) (0 + exV (Ai l)) := by
   unfold dV dX
   rw [e1, e2, List.append_nil, List.length_nil]
   exact congrArg (Bq _) (by omega)
  have en : l.length - (dR l).length = s.size - (exR (Ai l)).length := by unfold dR; rw [e2, hbl]
  rw [hdr, ← ev, ← en] at this
  unfold lgN lgV
  rw [if_pos (pos1 h2), if_pos (pos1 h2), hex]
  exact this : ∀ W, Ct 204 #[.string s, .int .i64 ((Af l).length : Nat), .string (s.extract 0 (Af l).length), .int .i64 0] (.tuple #[.int .i64 (lgN l : Nat), .float .f64 (lgV l)]) W)
 have Z0 := fun (h : dB l = false) => (by
  unfold lgN lgV
  rw [h]
  exact ⟨rfl, rfl⟩ : lgN l = 0 ∧ lgV l = 0)
 cases A with
 | nil =>
  have hn : (Af l).length = s.size := by rw [hA, List.length_nil] at hra; omega
  have hdot : Fz (Ai l) = false := by rw [hA]; rfl
  by_cases h0 : dW l = []
  ·obtain ⟨z1, z2⟩ := Z0 (zero h0 (nodot hdot).1)
   rw [z1, z2]
   exact Uy (s := s) (a := (Af l).length) (w := w) (_hs := by omega) (g := hn) (ha0 := by have : Af l = [] := h0; rw [this]; rfl) (C1 := C1)
  ·exact U3 (s := s) (a := (Af l).length) (w := w) (hs := by omega) (g := hn) (ha0 := List.length_pos_iff.2 h0) (C1 := C1) (C4 := Lh (T0 hdot h0))
 | cons B t =>
  rw [hA] at hdr
  obtain ⟨hr, hc, _⟩ := Ff hdr
  obtain ⟨g, hB⟩ := Gr (s := s) (by rw [hl]; exact hc)
  by_cases hb : B = 46
  ·subst hb
   have hF : dF l = Af t := by unfold dF; rw [hA]; rfl
   have hT : dT l = Ai t := by unfold dT; rw [hA]; rfl
   have hrt := Cf t
   have hla := congrArg List.length hdr
   rw [List.length_drop, List.length_cons] at hla
   have C3' := Lh (fun W => C3 (Af l).length W (by omega))
   rw [hr] at C3'
   by_cases h0 : 0 < (Af l).length + (Af t).length
   ·have hB2 : dB l = true := by
     by_cases h1 : dW l = []
     ·refine pos2 (fun e => ?_)
      rw [hF] at e
      have h2 : Af l = [] := h1
      rw [h2, e] at h0
      exact absurd h0 (by simp)
     ·exact pos1 h1
    have T1 := fun W => C4 ((Af l).length + 1 + (Af t).length) (Af l ++ Af t) (-((Af t).length : Int)) W (by omega) (fun c hc => by
     rcases List.mem_append.1 hc with h | h
     ·exact Br _ c h
     ·exact Br _ c h) (by rw [List.length_append]; omega) (by omega) (by omega)
    have hd2 : l.drop ((Af l).length + 1 + (Af t).length) = Ai t := by rw [← List.drop_drop, hr, Vz]
    have ev : dV l = Bq (num 10 (Af l ++ Af t)) (-((Af t).length : Int) + exV (Ai t)) := by
     unfold dV dX dW
     rw [hF, hT]
     exact congrArg (Bq _) (by omega)
    have en : l.length - (dR l).length = s.size - (exR (Ai t)).length := by unfold dR; rw [hT, hbl]
    have hex2 : s.extract 0 (Af l).length ++ s.extract ((Af l).length + 1) ((Af l).length + 1 + (Af t).length) = Ad (Af l ++ Af t) := by
     rw [hex, hmid _ _ (by omega), hr, On, Fb]
    rw [hd2, ← ev, ← en, ← hex2, show (((Af l).length + 1 + (Af t).length : Nat) : Int) = ((Af l).length : Int) + 1 + ((Af t).length : Int) by omega] at T1
    unfold lgN lgV
    rw [if_pos hB2, if_pos hB2]
    exact U7 (s := s) (a := (Af l).length) (b := (Af t).length) (w := w) (hs := by omega) (g := g) (hB := hB) (h0 := h0) (hb := by omega) (C1 := C1) (C3 := C3') (C4 := Lh T1)
   ·have h1 : Af l = [] := List.length_eq_zero_iff.1 (by omega)
    have h2 : Af t = [] := List.length_eq_zero_iff.1 (by omega)
    obtain ⟨z1, z2⟩ := Z0 (zero h1 (by rw [hF, h2]))
    rw [z1, z2]
    exact Tq (s := s) (a := (Af l).length) (b := (Af t).length) (w := w) (hs := by omega) (g := g) (hB := hB) (ha0 := by rw [h1]; rfl) (hb0 := by rw [h2]; rfl) (hb := by omega) (C1 := C1) (C3 := C3')
  ·have hdot : Fz (Ai l) = false := by rw [hA]; unfold Fz; rw [List.head?_cons, beq_eq_false_iff_ne]; exact fun e => hb (Option.some.inj e)
   by_cases h0 : dW l = []
   ·obtain ⟨z1, z2⟩ := Z0 (zero h0 (nodot hdot).1)
    rw [z1, z2]
    exact Op (s := s) (a := (Af l).length) (B := B) (w := w) (hs := by omega) (g := g) (hB := hB) (n1 := hb) (ha0 := by have : Af l = [] := h0; rw [this]; rfl) (C1 := C1)
   ·have T2 := T0 hdot h0
    exact O8 (s := s) (a := (Af l).length) (B := B) (w := w) (hs := by omega) (g := g) (hB := hB) (n1 := hb) (ha0 := List.length_pos_iff.2 h0) (C1 := C1) (C4 := Lh T2)


end
section
theorem Adc (s : ByteArray) (K N r : Nat) (w : World) (hs : s.size ≤ 281474976710656) (hK : K ≤ s.size) (hN : s.size - K = N)
  (Z1 : Hid (∀ k (h : k < s.size), k < K → (s[k]'h).toNat = 48)) (Z2 : Hid (∀ h : K < s.size, (s[K]'h).toNat ≠ 48)) (hN0 : 1100 < N) :
  Ct 202 #[.string s, .int .i64 r] (.float .f64 9218868437227405312) w := by
 have h1 : (s.size : Int) ≤ 281474976710656 := by omega
 have HN := Lh hN
 have HK := Lh hK
 have HN0 := Lh hN0
 have C3 := Lh (fun W => Fi W)
 clear hs hK hN hN0
 go_enter Tryz.func202, Tryz.ntmps202
 go_wp2
 go_loopw [5] (fun i wr => ∃ k : Nat, i = .int .i64 k ∧ k ≤ K ∧ w = wr) (fun i _ => K - (intOf i).toNat)
 case atStart => exact ⟨0, rfl, Nat.zero_le _, rfl⟩
 case round =>
  obtain ⟨k, rfl, hk, rfl⟩ := hrel
  have hk2 := HK.out
  by_cases hlt : k < K
  ·have hks : k < s.size := by omega
   have e0 : ((s[k]'hks).toNat : Int) = 48 := by rw [Z1.out k hks hlt]; rfl
   have a2 : (k : Int) < (s.size : Int) := by omega
   have a1 : (0 : Int) ≤ (k : Int) := by omega
   clear hk2
   go_wp2
   exact ⟨⟨k + 1, by go_num, by omega, trivial⟩, by simp [intOf]; omega⟩
  ·obtain rfl : k = K := by omega
   have hz : k < s.size := by have := HN.out; have := HN0.out; omega
   obtain ⟨B, hB⟩ : ∃ B : Nat, (s[k]'hz).toNat = B := ⟨_, rfl⟩
   have hB48 := Z2.out hz
   rw [hB] at hB48
   have e0 : ((s[k]'hz).toNat : Int) = (B : Int) := by rw [hB]
   have e1 : ((B : Int) == 48) = false := by rw [beq_eq_false_iff_ne]; omega
   have a2 : (k : Int) < (s.size : Int) := by omega
   have a1 : (0 : Int) ≤ (k : Int) := by omega
   have a3 : (k : Int) ≤ (s.size : Int) := by omega
   have a4 : ((s.size - k : Nat) : Int) = (N : Int) := by rw [HN.out]
   have t1 : decide ((1100 : Int) < (N : Int)) = true := decide_eq_true (by have := HN0.out; omega)
   clear hk2 hB hB48
   go_wp2_with fail
   refine Sm (C3.out _) ?_
   go_wp2
   go_ret
   exact ⟨rfl, Below.refl _ _⟩
theorem Ae6 (s g : ByteArray) (K N r F : Nat) (w : World) (hs : s.size ≤ 281474976710656) (hK : K ≤ s.size) (hN : s.size - K = N)
  (Z1 : Hid (∀ k (h : k < s.size), k < K → (s[k]'h).toNat = 48)) (Z2 : Hid (∀ h : K < s.size, (s[K]'h).toNat ≠ 48)) (hN0 : ¬ 1100 < N)
  (hg : s.extract K s.size = g) (hgN : g.size = N) (h2 : 2 ≤ r) (h36 : r ≤ 36) (hd : ∀ i, i < g.size → dgt (btn g i) < r)
  (HL : Hid (∀ o, o ≤ N → (wds (pv r (fun i => dgt (btn g i)) o)).length ≤ 940))
  (C7 : Hid (∀ W A n c, NV W A n c (pv r (fun i => dgt (btn g i)) N) → Ct 266 #[.slice A n c, .int .i64 0] (.float .f64 F) W)) :
  Ct 202 #[.string s, .int .i64 r] (.float .f64 F) w := by
 have h1 : (s.size : Int) ≤ 281474976710656 := by omega
 have HN := Lh hN
 have HK := Lh hK
 have HN0 := Lh hN0
 have HG := Lh hg
 have HGN := Lh hgN
 have HD := Lh hd
 have H2 := Lh h2
 have H36 := Lh h36
 have kr : IntKind.u32.wrap (r : Int) = (r : Int) := IntWalk.u32_in _ (by omega)
 clear hs hK hN hN0 hg hgN hd h2 h36
 go_enter Tryz.func202, Tryz.ntmps202
 go_wp2
 go_loopw [5] (fun i wr => ∃ k : Nat, i = .int .i64 k ∧ k ≤ K ∧ w = wr) (fun i _ => K - (intOf i).toNat)
 case atStart => exact ⟨0, rfl, Nat.zero_le _, rfl⟩
 case round =>
  obtain ⟨k, rfl, hk, rfl⟩ := hrel
  have hk2 := HK.out
  by_cases hlt : k < K
  ·have hks : k < s.size := by omega
   have e0 : ((s[k]'hks).toNat : Int) = 48 := by rw [Z1.out k hks hlt]; rfl
   have a2 : (k : Int) < (s.size : Int) := by omega
   have a1 : (0 : Int) ≤ (k : Int) := by omega
   clear hk2
   go_wp2
   exact ⟨⟨k + 1, by go_num, by omega, trivial⟩, by simp [intOf]; omega⟩
  ·obtain rfl : k = K := by omega
   have a1 : (0 : Int) ≤ (k : Int) := by omega
   have a3 : (k : Int) ≤ (s.size : Int) := by omega
   have hext : s.extract k s.size = g := HG.out
   have b4 : (g.size : Int) = (N : Int) := by rw [HGN.out]
   have t1 : decide ((1100 : Int) < (N : Int)) = false := decide_eq_false (by have := HN0.out; omega)
   have main : ∀ Q : Prop, Q → Q := fun _ h => h
   by_cases hz : k < s.size
   ·obtain ⟨B, hB⟩ : ∃ B : Nat, (s[k]'hz).toNat = B := ⟨_, rfl⟩
    have hB48 := Z2.out hz
    rw [hB] at hB48
    have e0 : ((s[k]'hz).toNat : Int) = (B : Int) := by rw [hB]
    have e1 : ((B : Int) == 48) = false := by rw [beq_eq_false_iff_ne]; omega
    have a2 : (k : Int) < (s.size : Int) := by omega
    clear hk2 hB hB48 main
    go_wp2
    clear a1 a2 a3 e0 e1 hext b4 t1 hz
    go_loopw [6, 7] (fun av iv wr => ∃ o : Nat, iv = .int .i64 (o : Nat) ∧ o ≤ N ∧ Hid (Sl wr wr.heap.size av (wds (pv r (fun i => dgt (btn g i)) o))) ∧ Below w.heap.size w wr) (fun _ iv _ => N - (intOf iv).toNat)
    case atStart => exact ⟨0, rfl, Nat.zero_le _, Lh (Sl.nil _ _ _), Below.refl _ _⟩
    case round =>
     obtain ⟨o, rfl, ho, HS, hbw⟩ := hrel
     have hle := HL.out o ho
     obtain ⟨V, hV⟩ : ∃ V, pv r (fun i => dgt (btn g i)) o = V := ⟨_, rfl⟩
     rw [hV] at HS hle
     have HV := Lh hV
     obtain ⟨A0, c0, rfl, hc0, hr0⟩ := HS.out
     obtain ⟨L0, hL0⟩ : ∃ L, (wds V).length = L := ⟨_, rfl⟩
     rw [hL0] at hc0 hle ⊢
     by_cases hlt : o < N
     ·have hgo : o < g.size := by rw [HGN.out]; exact hlt
      have hd := HD.out o hgo
      have hb4 : (g.size : Int) = (N : Int) := by rw [HGN.out]
      have hx1 : (o : Int) < (N : Int) := by omega
      have hx2 : (o : Int) < (g.size : Int) := by omega
      have hx3 : (0 : Int) ≤ (o : Int) := by omega
      have hN1 : (N : Int) ≤ 1100 := by have := HN0.out; omega
      have C1 := Lh (fun W => show Cp 201 #[.int .u8 ((g[o]'hgo).toNat : Nat)] W fun e w' => e = .returned (.int .i64 (dgt (btn g o) : Nat)) ∧ W = w' from by
       rw [Dd g o hgo, ← Gu H36.out hd]; exact Cd _ W (E7 g o))
      have hpv : pv r (fun i => dgt (btn g i)) (o + 1) = V * r + dgt (btn g o) := by rw [← hV]; rfl
      have hd36 := N1 (btn g o)
      obtain ⟨d, hde⟩ : ∃ d, dgt (btn g o) = d := ⟨_, rfl⟩
      rw [hde] at C1 hpv hd36
      have kd : IntKind.u32.wrap (d : Int) = (d : Int) := IntWalk.u32_in _ (by omega)
      obtain ⟨L1, hL1⟩ : ∃ L, (wds (V * r)).length = L := ⟨_, rfl⟩
      obtain ⟨L2, hL2⟩ : ∃ L, (wds (V * r + d)).length = L := ⟨_, rfl⟩
      have l1 : L1 ≤ 1025 := by
       have h1 := Et V r
       have h3 : (wds r).length ≤ 1 := Bd (by have := H36.out; omega)
       omega
      have K1 := Lh (fun W g' (hb : Below wr.heap.size wr W) (g1 : RW W W.heap.size (some ⟨g', 0, none⟩) [r]) => show Cp 265 #[.slice A0 L0 c0, .slice (some ⟨g', 0, none⟩) 1 1] W (Kb (wds (V * r)) L1 W) from by
       have := Nb A0 L0 c0 g' r (wds V) L1 W hL0 (by omega) (hr0.step hb) g1 (by rw [Ag]; exact hL1)
       rw [Ag] at this; exact this)
      have K2 := Lh (fun W A2 c2 g' (r2 : RW W W.heap.size A2 (wds (V * r))) (g1 : RW W W.heap.size (some ⟨g', 0, none⟩) [d]) => show Cp 264 #[.slice A2 L1 c2, .slice (some ⟨g', 0, none⟩) 1 1] W (Kb (wds (V * r + d)) L2 W) from by
       have := Sw A2 L1 c2 g' d (wds (V * r)) L2 W hL1 (by omega) r2 g1 (by rw [Ag]; exact hL2)
       rw [Ag] at this; exact this)
      have HLR := Lh (fun W => Gn W r (by have := H36.out; omega))
      have HLD := Lh (fun W => Gn W d (by omega))
      have HPV := Lh hpv
      have HL2 := Lh hL2
      clear hpv hL2
      clear hV hL0 hle hc0 hr0 hd hde hd36 hL1 l1
      go_wp2
      go_region_held3 (fun w' => True) (trivial) (first | (go_at_call 265; refine (K1.out _ _ (Ac ((Below.refl _ _).alloc (Nat.le_refl _) _) 1) ((HLR.out wr).drewN 1)).mono ?_; rintro e w2 ⟨A2, c2, rfl, ⟨hc2, r2⟩, b2⟩) | (go_at_call 201; refine (C1.out _).mono ?_; rintro e w' ⟨rfl, rfl⟩) | (go_at_call 264; refine (K2.out _ _ _ _ (r2.step ((Below.refl _ _).alloc (Nat.le_refl _) _)) (HLD.out _)).mono ?_; rintro e w3 ⟨A3, c3, rfl, ⟨hc3, r3⟩, b3⟩))
      all_goals
       have B2 : Below w.heap.size w w2 := Aa (Ac (hbw.alloc hbw.size _) 1) b2
       have B3 : Below w.heap.size w w3 := Aa (B2.alloc B2.size _) b3
       clear r2 b2 b3 B2 hc2 K1 K2
       have HSL := Lh (⟨A3, c3, by rw [HL2.out], by rw [HL2.out]; exact hc3, r3⟩ : Sl w3 w3.heap.size (.slice A3 L2 c3) (wds (V * r + d)))
       have HB3 := Lh B3
       clear r3 hc3 B3
       go_wp2
       exact ⟨⟨o + 1, by go_num, by omega, Lh (by rw [HPV.out]; exact HSL.out), HB3.out⟩, by simp [intOf]; omega⟩
     ·obtain rfl : o = N := by omega
      have HNV := Lh (show NV wr A0 L0 c0 (pv r (fun i => dgt (btn g i)) o) from ⟨by rw [HV.out]; exact hL0, hc0, by rw [HV.out]; exact hr0⟩)
      have hb4 : (g.size : Int) = (o : Int) := by rw [HGN.out]
      have b0 : ¬ (o : Int) < (o : Int) := by omega
      clear hlt hc0 hr0 hL0 hle hV
      go_wp2_with fail
      refine Bm (C7.out _ _ _ _ HNV.out) fun w4 b4 => ?_
      have B4 := Lh (Aa hbw b4)
      clear b4
      go_wp2
      go_ret
      exact ⟨rfl, B4.out⟩
   ·have a2 : ¬ (k : Int) < (s.size : Int) := by omega
    clear hk2 main
    go_wp2
    clear a1 a2 a3 hext b4 t1 hz
    go_loopw [6, 7] (fun av iv wr => ∃ o : Nat, iv = .int .i64 (o : Nat) ∧ o ≤ N ∧ Hid (Sl wr wr.heap.size av (wds (pv r (fun i => dgt (btn g i)) o))) ∧ Below w.heap.size w wr) (fun _ iv _ => N - (intOf iv).toNat)
    case atStart => exact ⟨0, rfl, Nat.zero_le _, Lh (Sl.nil _ _ _), Below.refl _ _⟩
    case round =>
     obtain ⟨o, rfl, ho, HS, hbw⟩ := hrel
     have hle := HL.out o ho
     obtain ⟨V, hV⟩ : ∃ V, pv r (fun i => dgt (btn g i)) o = V := ⟨_, rfl⟩
     rw [hV] at HS hle
     have HV := Lh hV
     obtain ⟨A0, c0, rfl, hc0, hr0⟩ := HS.out
     obtain ⟨L0, hL0⟩ : ∃ L, (wds V).length = L := ⟨_, rfl⟩
     rw [hL0] at hc0 hle ⊢
     by_cases hlt : o < N
     ·have hgo : o < g.size := by rw [HGN.out]; exact hlt
      have hd := HD.out o hgo
      have hb4 : (g.size : Int) = (N : Int) := by rw [HGN.out]
      have hx1 : (o : Int) < (N : Int) := by omega
      have hx2 : (o : Int) < (g.size : Int) := by omega
      have hx3 : (0 : Int) ≤ (o : Int) := by omega
      have hN1 : (N : Int) ≤ 1100 := by have := HN0.out; omega
      have C1 := Lh (fun W => show Cp 201 #[.int .u8 ((g[o]'hgo).toNat : Nat)] W fun e w' => e = .returned (.int .i64 (dgt (btn g o) : Nat)) ∧ W = w' from by
       rw [Dd g o hgo, ← Gu H36.out hd]; exact Cd _ W (E7 g o))
      have hpv : pv r (fun i => dgt (btn g i)) (o + 1) = V * r + dgt (btn g o) := by rw [← hV]; rfl
      have hd36 := N1 (btn g o)
      obtain ⟨d, hde⟩ : ∃ d, dgt (btn g o) = d := ⟨_, rfl⟩
      rw [hde] at C1 hpv hd36
      have kd : IntKind.u32.wrap (d : Int) = (d : Int) := IntWalk.u32_in _ (by omega)
      obtain ⟨L1, hL1⟩ : ∃ L, (wds (V * r)).length = L := ⟨_, rfl⟩
      obtain ⟨L2, hL2⟩ : ∃ L, (wds (V * r + d)).length = L := ⟨_, rfl⟩
      have l1 : L1 ≤ 1025 := by
       have h1 := Et V r
       have h3 : (wds r).length ≤ 1 := Bd (by have := H36.out; omega)
       omega
      have K1 := Lh (fun W g' (hb : Below wr.heap.size wr W) (g1 : RW W W.heap.size (some ⟨g', 0, none⟩) [r]) => show Cp 265 #[.slice A0 L0 c0, .slice (some ⟨g', 0, none⟩) 1 1] W (Kb (wds (V * r)) L1 W) from by
       have := Nb A0 L0 c0 g' r (wds V) L1 W hL0 (by omega) (hr0.step hb) g1 (by rw [Ag]; exact hL1)
       rw [Ag] at this; exact this)
      have K2 := Lh (fun W A2 c2 g' (r2 : RW W W.heap.size A2 (wds (V * r))) (g1 : RW W W.heap.size (some ⟨g', 0, none⟩) [d]) => show Cp 264 #[.slice A2 L1 c2, .slice (some ⟨g', 0, none⟩) 1 1] W (Kb (wds (V * r + d)) L2 W) from by
       have := Sw A2 L1 c2 g' d (wds (V * r)) L2 W hL1 (by omega) r2 g1 (by rw [Ag]; exact hL2)
       rw [Ag] at this; exact this)
      have HLR := Lh (fun W => Gn W r (by have := H36.out; omega))
      have HLD := Lh (fun W => Gn W d (by omega))
      have HPV := Lh hpv
      have HL2 := Lh hL2
      clear hpv hL2
      clear hV hL0 hle hc0 hr0 hd hde hd36 hL1 l1
      go_wp2
      go_region_held3 (fun w' => True) (trivial) (first | (go_at_call 265; refine (K1.out _ _ (Ac ((Below.refl _ _).alloc (Nat.le_refl _) _) 1) ((HLR.out wr).drewN 1)).mono ?_; rintro e w2 ⟨A2, c2, rfl, ⟨hc2, r2⟩, b2⟩) | (go_at_call 201; refine (C1.out _).mono ?_; rintro e w' ⟨rfl, rfl⟩) | (go_at_call 264; refine (K2.out _ _ _ _ (r2.step ((Below.refl _ _).alloc (Nat.le_refl _) _)) (HLD.out _)).mono ?_; rintro e w3 ⟨A3, c3, rfl, ⟨hc3, r3⟩, b3⟩))
      all_goals
       have B2 : Below w.heap.size w w2 := Aa (Ac (hbw.alloc hbw.size _) 1) b2
       have B3 : Below w.heap.size w w3 := Aa (B2.alloc B2.size _) b3
       clear r2 b2 b3 B2 hc2 K1 K2
       have HSL := Lh (⟨A3, c3, by rw [HL2.out], by rw [HL2.out]; exact hc3, r3⟩ : Sl w3 w3.heap.size (.slice A3 L2 c3) (wds (V * r + d)))
       have HB3 := Lh B3
       clear r3 hc3 B3
       go_wp2
       exact ⟨⟨o + 1, by go_num, by omega, Lh (by rw [HPV.out]; exact HSL.out), HB3.out⟩, by simp [intOf]; omega⟩
     ·obtain rfl : o = N := by omega
      have HNV := Lh (show NV wr A0 L0 c0 (pv r (fun i => dgt (btn g i)) o) from ⟨by rw [HV.out]; exact hL0, hc0, by rw [HV.out]; exact hr0⟩)
      have hb4 : (g.size : Int) = (o : Int) := by rw [HGN.out]
      have b0 : ¬ (o : Int) < (o : Int) := by omega
      clear hlt hc0 hr0 hL0 hle hV
      go_wp2_with fail
      refine Bm (C7.out _ _ _ _ HNV.out) fun w4 b4 => ?_
      have B4 := Lh (Aa hbw b4)
      clear b4
      go_wp2
      go_ret
      exact ⟨rfl, B4.out⟩
theorem R6 (l : List Nat) (r : Nat) (w : World) (h2 : 2 ≤ r) (h36 : r ≤ 36) (hd : ∀ c ∈ l, dgt c < r) (hb : ∀ c ∈ l, c < 256) (hs : l.length ≤ 281474976710656) :
  Ct 202 #[.string (Ad l), .int .i64 r] (.float .f64 (F6 r l)) w := by
 have hbl := Al hb
 have hz := Ak l
 have hgl : (ldz l).length ≤ l.length := (List.dropWhile_sublist _).length_le
 have hdr := Vu l
 have hex : (Ad l).extract (l.length - (ldz l).length) (Ad l).size = Ad (ldz l) := by rw [Jm, hbl, hdr]
 have hgb : ∀ c ∈ ldz l, c < 256 := fun c hc => hb c (Eu hc)
 have hgd : ∀ c ∈ ldz l, dgt c < r := fun c hc => hd c (Eu hc)
 have Z1 : Hid (∀ k (h : k < (Ad l).size), k < l.length - (ldz l).length → ((Ad l)[k]'h).toNat = 48) := Lh (fun k h hk => by
  have h1 := Cg (Ad l) k h
  rw [hbl, Pc l k hk] at h1
  exact (Option.some.inj h1).symm)
 have Z2 : Hid (∀ h : l.length - (ldz l).length < (Ad l).size, ((Ad l)[l.length - (ldz l).length]'h).toNat ≠ 48) := Lh (fun h e => by
  have h1 := Cg (Ad l) _ h
  rw [hbl, e] at h1
  have h2 : (l.drop (l.length - (ldz l).length)).head? = some 48 := by rw [List.head?_drop]; exact h1
  rw [hdr] at h2
  exact Bx l h2)
 obtain ⟨N, hN⟩ : ∃ N, (ldz l).length = N := ⟨_, rfl⟩
 obtain ⟨K, hK⟩ : ∃ K, l.length - (ldz l).length = K := ⟨_, rfl⟩
 rw [hK] at hex Z1 Z2
 by_cases h : 1100 < N
 ·have key : F6 r l = 9218868437227405312 := by
   rw [← Pa]
   obtain ⟨D, hD⟩ : ∃ D : Nat, D = 1024 := ⟨_, rfl⟩
   refine S5 hD ?_
   refine Nat.le_trans ?_ (Vv (r := r) (fun e => by rw [e] at hN; simp at hN; omega) (Bx l))
   exact Nat.le_trans (Nat.pow_le_pow_left h2 D) (Nat.pow_le_pow_right (by omega) (by omega))
  rw [key]
  exact Adc (Ad l) K N r w (by omega) (by omega) (by omega) Z1 Z2 h
 ·have hbg := Al hgb
  have hgs := Ak (ldz l)
  have hbt : ∀ i, i < (Ad (ldz l)).size → dgt (btn (Ad (ldz l)) i) < r := fun i hi => by
   rw [Ry _ _ hi, hbg, List.getD_eq_getElem?_getD, List.getElem?_eq_getElem (by omega)]
   exact hgd _ (List.getElem_mem _)
  have hsv : pv r (fun i => dgt (btn (Ad (ldz l)) i)) N = num r l := by
   have := Q9 r (Ad (ldz l))
   rw [hbg] at this
   unfold sv at this
   rw [hgs, hN] at this
   rw [this]
   exact Ch r l
  have hnum : num r (ldz l) = num r l := Ch r l
  have hbn : bln (num r l) ≤ 30000 := by
   rw [← hnum]
   have a1 := Dr (Nat.le_of_lt (Xn hgd))
   have a2 := Mj r (ldz l).length
   have a3 : bln r ≤ 6 := Km (by omega)
   have a4 : bln r * (ldz l).length ≤ 6 * 1100 := Nat.mul_le_mul a3 (by omega)
   omega
  have HL : Hid (∀ o, o ≤ N → (wds (pv r (fun i => dgt (btn (Ad (ldz l)) i)) o)).length ≤ 940) := Lh (fun o ho => by
   have h1 := Mr (r := r) (g := fun i => dgt (btn (Ad (ldz l)) i)) (by omega) ho
   rw [hsv] at h1
   exact Bf (Nat.le_trans (Dr h1) hbn))
  refine Ae6 (Ad l) (Ad (ldz l)) K N r (F6 r l) w (by omega) (by omega) (by omega) Z1 Z2 h hex (by omega) h2 h36 hbt HL (Lh (fun W A n c g => ?_))
  rw [hsv] at g
  obtain ⟨K0, hK0, hdd⟩ := Fp
  have := Sj g hbn K0 0 0 (by omega) (by omega) (by omega)
  unfold F6
  rw [hdd, show (0 : Int).toNat = 0 from rfl, show (-(0 : Int)).toNat = 0 from rfl, Nat.pow_zero, Nat.mul_one]
  exact this


end
section
theorem Wg (s : ByteArray) (w : World) (h : s.size < 3) :
  Cq 115 #[.string s] (.tuple #[.float .f64 0, .bool false]) w := by
 have a1 : (s.size : Int) < 3 := by omega
 clear h
 go_enter Tryz.func115, Tryz.ntmps115
 go_wp2
 go_ret2
 exact ⟨rfl, rfl⟩
theorem Ajk (s : ByteArray) (B : Nat) (w : World) (h : 3 ≤ s.size) (g0 : 0 < s.size) (h0 : (s[0]'g0).toNat = B) (n0 : B ≠ 48) :
  Cq 115 #[.string s] (.tuple #[.float .f64 0, .bool false]) w := by
 have a1 : ¬ (s.size : Int) < 3 := by omega
 have a2 : (0 : Int) < (s.size : Int) := by omega
 have e0 : ((s[0]'g0).toNat : Int) = (B : Int) := by rw [h0]
 have e1 : ((B : Int) != 48) = true := by rw [bne_iff_ne]; omega
 clear h h0 n0
 go_enter Tryz.func115, Tryz.ntmps115
 go_wp2
 go_ret2
 exact ⟨rfl, rfl⟩
theorem Ajb (s : ByteArray) (B : Nat) (w : World) (h : 3 ≤ s.size) (g0 : 0 < s.size) (h0 : (s[0]'g0).toNat = 48) (g1 : 1 < s.size) (h1 : (s[1]'g1).toNat = B) (n1 : B ≠ 120) (n2 : B ≠ 88) :
  Cq 115 #[.string s] (.tuple #[.float .f64 0, .bool false]) w := by
 have a1 : ¬ (s.size : Int) < 3 := by omega
 have a2 : (1 : Int) < (s.size : Int) := by omega
 have e0 : ((s[0]'g0).toNat : Int) = 48 := by rw [h0]; rfl
 have e1 : ((s[1]'g1).toNat : Int) = (B : Int) := by rw [h1]
 have e2 : ((B : Int) != 120) = true := by rw [bne_iff_ne]; omega
 have e3 : ((B : Int) != 88) = true := by rw [bne_iff_ne]; omega
 clear h h0 h1 n1 n2
 go_enter Tryz.func115, Tryz.ntmps115
 go_wp2
 go_ret2
 exact ⟨rfl, rfl⟩
theorem Wn (s : ByteArray) (J : Nat) (w : World) (hs : s.size ≤ 281474976710656) (h : 3 ≤ s.size) (g0 : 0 < s.size) (h0 : (s[0]'g0).toNat = 48) (g1 : 1 < s.size) (h1 : (s[1]'g1).toNat = 120)
  (hJ : ∀ i, 2 ≤ i → i < J → dgt (btn s i) < 16) (hJ2 : 2 ≤ J) (hJs : J < s.size) (hJn : ¬ dgt (btn s J) < 16) :
  Cq 115 #[.string s] (.tuple #[.float .f64 0, .bool false]) w := by
 have a0 : (s.size : Int) ≤ 281474976710656 := by omega
 have a1 : ¬ (s.size : Int) < 3 := by omega
 have a2 : (1 : Int) < (s.size : Int) := by omega
 have a3 : (2 : Int) ≤ (s.size : Int) := by omega
 have e0 : ((s[0]'g0).toNat : Int) = 48 := by rw [h0]; rfl
 have e1 : ((s[1]'g1).toNat : Int) = 120 := by rw [h1]; rfl
 have HJ := Lh hJ
 have HJ2 := Lh hJ2
 have HJS := Lh hJs
 have HJN := Lh hJn
 clear hs h h0 h1 hJ hJ2 hJs hJn
 go_enter Tryz.func115, Tryz.ntmps115
 go_wp2
 clear e0 e1 a1
 go_loopw [4] (fun i wr => ∃ k : Nat, i = .int .i64 k ∧ 2 ≤ k ∧ k ≤ J ∧ w = wr) (fun i _ => J - (intOf i).toNat)
 case atStart => exact ⟨2, rfl, Nat.le_refl _, HJ2.out, rfl⟩
 case round =>
  obtain ⟨k, rfl, hk2, hk, rfl⟩ := hrel
  by_cases hlt : k < J
  ·have hks : k < s.size := by have := HJS.out; omega
   have C1 := Lh (fun W => show Cp 201 #[.int .u8 ((s[k]'hks).toNat : Nat)] W fun e w' => e = .returned (.int .i64 (dgt (btn s k) : Nat)) ∧ W = w' from by
    rw [Dd s k hks, ← Gu (r := 16) (by omega) (HJ.out k hk2 hlt)]; exact Cd _ W (E7 s k))
   have hd := HJ.out k hk2 hlt
   obtain ⟨d, hde⟩ : ∃ d, dgt (btn s k) = d := ⟨_, rfl⟩
   rw [hde] at C1 hd
   have b1 : ¬ (16 : Int) ≤ (d : Int) := by omega
   have b2 : (k : Int) < (s.size : Int) := by omega
   have b3 : (0 : Int) ≤ (k : Int) := by omega
   clear hde hd
   go_wp2_with fail
   refine Sm (C1.out _) ?_
   go_wp2
   exact ⟨⟨k + 1, by go_num, by omega, by omega, trivial⟩, by simp [intOf]; omega⟩
  ·obtain rfl : k = J := by omega
   have hks : k < s.size := HJS.out
   have C1 := Lh (fun W => show Cp 201 #[.int .u8 ((s[k]'hks).toNat : Nat)] W fun e w' => e = .returned (.int .i64 (dgz (btn s k) : Nat)) ∧ W = w' from by
    rw [Dd s k hks]; exact Cd _ W (E7 s k))
   have hd : ¬ dgz (btn s k) < 16 := fun h => HJN.out ((Wp (by omega)).1 h)
   obtain ⟨d, hde⟩ : ∃ d, dgz (btn s k) = d := ⟨_, rfl⟩
   rw [hde] at C1 hd
   have b1 : (16 : Int) ≤ (d : Int) := by omega
   have b2 : (k : Int) < (s.size : Int) := by omega
   have b3 : (0 : Int) ≤ (k : Int) := by omega
   clear hde hd
   go_wp2_with fail
   refine Sm (C1.out _) ?_
   go_wp2
   go_ret2
   exact ⟨rfl, rfl⟩
theorem Yf (s : ByteArray) (J F : Nat) (w : World) (hs : s.size ≤ 281474976710656) (h : 3 ≤ s.size) (g0 : 0 < s.size) (h0 : (s[0]'g0).toNat = 48) (g1 : 1 < s.size) (h1 : (s[1]'g1).toNat = 120)
  (hJ : ∀ i, 2 ≤ i → i < J → dgt (btn s i) < 16) (hJ2 : 2 ≤ J) (hJs : J = s.size)
  (C2 : Hid (∀ W, Ct 202 #[.string (s.extract 2 s.size), .int .i64 16] (.float .f64 F) W)) :
  Ct 115 #[.string s] (.tuple #[.float .f64 F, .bool true]) w := by
 have a0 : (s.size : Int) ≤ 281474976710656 := by omega
 have a1 : ¬ (s.size : Int) < 3 := by omega
 have a2 : (1 : Int) < (s.size : Int) := by omega
 have a3 : (2 : Int) ≤ (s.size : Int) := by omega
 have e0 : ((s[0]'g0).toNat : Int) = 48 := by rw [h0]; rfl
 have e1 : ((s[1]'g1).toNat : Int) = 120 := by rw [h1]; rfl
 have HJ := Lh hJ
 have HJ2 := Lh hJ2
 have HJS := Lh hJs
 clear hs h h0 h1 hJ hJ2 hJs
 go_enter Tryz.func115, Tryz.ntmps115
 go_wp2
 clear e0 e1 a1
 go_loopw [4] (fun i wr => ∃ k : Nat, i = .int .i64 k ∧ 2 ≤ k ∧ k ≤ J ∧ w = wr) (fun i _ => J - (intOf i).toNat)
 case atStart => exact ⟨2, rfl, Nat.le_refl _, HJ2.out, rfl⟩
 case round =>
  obtain ⟨k, rfl, hk2, hk, rfl⟩ := hrel
  by_cases hlt : k < J
  ·have hks : k < s.size := by have := HJS.out; omega
   have C1 := Lh (fun W => show Cp 201 #[.int .u8 ((s[k]'hks).toNat : Nat)] W fun e w' => e = .returned (.int .i64 (dgt (btn s k) : Nat)) ∧ W = w' from by
    rw [Dd s k hks, ← Gu (r := 16) (by omega) (HJ.out k hk2 hlt)]; exact Cd _ W (E7 s k))
   have hd := HJ.out k hk2 hlt
   obtain ⟨d, hde⟩ : ∃ d, dgt (btn s k) = d := ⟨_, rfl⟩
   rw [hde] at C1 hd
   have b1 : ¬ (16 : Int) ≤ (d : Int) := by omega
   have b2 : (k : Int) < (s.size : Int) := by omega
   have b3 : (0 : Int) ≤ (k : Int) := by omega
   clear hde hd
   go_wp2_with fail
   refine Sm (C1.out _) ?_
   go_wp2
   exact ⟨⟨k + 1, by go_num, by omega, by omega, trivial⟩, by simp [intOf]; omega⟩
  ·obtain rfl : k = J := by omega
   have b2 : ¬ (k : Int) < (s.size : Int) := by have := HJS.out; omega
   go_wp2_with fail
   refine (C2.out _).mono ?_
   rintro e w' ⟨rfl, hb⟩
   go_wp2
   go_ret2
   exact ⟨rfl, hb⟩
theorem Abi (s : ByteArray) (J : Nat) (w : World) (hs : s.size ≤ 281474976710656) (h : 3 ≤ s.size) (g0 : 0 < s.size) (h0 : (s[0]'g0).toNat = 48) (g1 : 1 < s.size) (h1 : (s[1]'g1).toNat = 88)
  (hJ : ∀ i, 2 ≤ i → i < J → dgt (btn s i) < 16) (hJ2 : 2 ≤ J) (hJs : J < s.size) (hJn : ¬ dgt (btn s J) < 16) :
  Cq 115 #[.string s] (.tuple #[.float .f64 0, .bool false]) w := by
 have a0 : (s.size : Int) ≤ 281474976710656 := by omega
 have a1 : ¬ (s.size : Int) < 3 := by omega
 have a2 : (1 : Int) < (s.size : Int) := by omega
 have a3 : (2 : Int) ≤ (s.size : Int) := by omega
 have e0 : ((s[0]'g0).toNat : Int) = 48 := by rw [h0]; rfl
 have e1 : ((s[1]'g1).toNat : Int) = 88 := by rw [h1]; rfl
 have HJ := Lh hJ
 have HJ2 := Lh hJ2
 have HJS := Lh hJs
 have HJN := Lh hJn
 clear hs h h0 h1 hJ hJ2 hJs hJn
 go_enter Tryz.func115, Tryz.ntmps115
 go_wp2
 clear e0 e1 a1
 go_loopw [4] (fun i wr => ∃ k : Nat, i = .int .i64 k ∧ 2 ≤ k ∧ k ≤ J ∧ w = wr) (fun i _ => J - (intOf i).toNat)
 case atStart => exact ⟨2, rfl, Nat.le_refl _, HJ2.out, rfl⟩
 case round =>
  obtain ⟨k, rfl, hk2, hk, rfl⟩ := hrel
  by_cases hlt : k < J
  ·have hks : k < s.size := by have := HJS.out; omega
   have C1 := Lh (fun W => show Cp 201 #[.int .u8 ((s[k]'hks).toNat : Nat)] W fun e w' => e = .returned (.int .i64 (dgt (btn s k) : Nat)) ∧ W = w' from by
    rw [Dd s k hks, ← Gu (r := 16) (by omega) (HJ.out k hk2 hlt)]; exact Cd _ W (E7 s k))
   have hd := HJ.out k hk2 hlt
   obtain ⟨d, hde⟩ : ∃ d, dgt (btn s k) = d := ⟨_, rfl⟩
   rw [hde] at C1 hd
   have b1 : ¬ (16 : Int) ≤ (d : Int) := by omega
   have b2 : (k : Int) < (s.size : Int) := by omega
   have b3 : (0 : Int) ≤ (k : Int) := by omega
   clear hde hd
   go_wp2_with fail
   refine Sm (C1.out _) ?_
   go_wp2
   exact ⟨⟨k + 1, by go_num, by omega, by omega, trivial⟩, by simp [intOf]; omega⟩
  ·obtain rfl : k = J := by omega
   have hks : k < s.size := HJS.out
   have C1 := Lh (fun W => show Cp 201 #[.int .u8 ((s[k]'hks).toNat : Nat)] W fun e w' => e = .returned (.int .i64 (dgz (btn s k) : Nat)) ∧ W = w' from by
    rw [Dd s k hks]; exact Cd _ W (E7 s k))
   have hd : ¬ dgz (btn s k) < 16 := fun h => HJN.out ((Wp (by omega)).1 h)
   obtain ⟨d, hde⟩ : ∃ d, dgz (btn s k) = d := ⟨_, rfl⟩
   rw [hde] at C1 hd
   have b1 : (16 : Int) ≤ (d : Int) := by omega
   have b2 : (k : Int) < (s.size : Int) := by omega
   have b3 : (0 : Int) ≤ (k : Int) := by omega
   clear hde hd
   go_wp2_with fail
   refine Sm (C1.out _) ?_
   go_wp2
   go_ret2
   exact ⟨rfl, rfl⟩
theorem Abk (s : ByteArray) (J F : Nat) (w : World) (hs : s.size ≤ 281474976710656) (h : 3 ≤ s.size) (g0 : 0 < s.size) (h0 : (s[0]'g0).toNat = 48) (g1 : 1 < s.size) (h1 : (s[1]'g1).toNat = 88)
  (hJ : ∀ i, 2 ≤ i → i < J → dgt (btn s i) < 16) (hJ2 : 2 ≤ J) (hJs : J = s.size)
  (C2 : Hid (∀ W, Ct 202 #[.string (s.extract 2 s.size), .int .i64 16] (.float .f64 F) W)) :
  Ct 115 #[.string s] (.tuple #[.float .f64 F, .bool true]) w := by
 have a0 : (s.size : Int) ≤ 281474976710656 := by omega
 have a1 : ¬ (s.size : Int) < 3 := by omega
 have a2 : (1 : Int) < (s.size : Int) := by omega
 have a3 : (2 : Int) ≤ (s.size : Int) := by omega
 have e0 : ((s[0]'g0).toNat : Int) = 48 := by rw [h0]; rfl
 have e1 : ((s[1]'g1).toNat : Int) = 88 := by rw [h1]; rfl
 have HJ := Lh hJ
 have HJ2 := Lh hJ2
 have HJS := Lh hJs
 clear hs h h0 h1 hJ hJ2 hJs
 go_enter Tryz.func115, Tryz.ntmps115
 go_wp2
 clear e0 e1 a1
 go_loopw [4] (fun i wr => ∃ k : Nat, i = .int .i64 k ∧ 2 ≤ k ∧ k ≤ J ∧ w = wr) (fun i _ => J - (intOf i).toNat)
 case atStart => exact ⟨2, rfl, Nat.le_refl _, HJ2.out, rfl⟩
 case round =>
  obtain ⟨k, rfl, hk2, hk, rfl⟩ := hrel
  by_cases hlt : k < J
  ·have hks : k < s.size := by have := HJS.out; omega
   have C1 := Lh (fun W => show Cp 201 #[.int .u8 ((s[k]'hks).toNat : Nat)] W fun e w' => e = .returned (.int .i64 (dgt (btn s k) : Nat)) ∧ W = w' from by
    rw [Dd s k hks, ← Gu (r := 16) (by omega) (HJ.out k hk2 hlt)]; exact Cd _ W (E7 s k))
   have hd := HJ.out k hk2 hlt
   obtain ⟨d, hde⟩ : ∃ d, dgt (btn s k) = d := ⟨_, rfl⟩
   rw [hde] at C1 hd
   have b1 : ¬ (16 : Int) ≤ (d : Int) := by omega
   have b2 : (k : Int) < (s.size : Int) := by omega
   have b3 : (0 : Int) ≤ (k : Int) := by omega
   clear hde hd
   go_wp2_with fail
   refine Sm (C1.out _) ?_
   go_wp2
   exact ⟨⟨k + 1, by go_num, by omega, by omega, trivial⟩, by simp [intOf]; omega⟩
  ·obtain rfl : k = J := by omega
   have b2 : ¬ (k : Int) < (s.size : Int) := by have := HJS.out; omega
   go_wp2_with fail
   refine (C2.out _).mono ?_
   rintro e w' ⟨rfl, hb⟩
   go_wp2
   go_ret2
   exact ⟨rfl, hb⟩

end
section
theorem Ajl {s : ByteArray} {k : Nat} (h : k < s.size) : (bl s)[k]? = some (btn s k) := by
 rw [Cg s k h, Dd s k h]
theorem Aa3 (s : ByteArray) (h : 2 ≤ s.size) : ∃ J, 2 ≤ J ∧ J ≤ s.size ∧ (∀ i, 2 ≤ i → i < J → dgt (btn s i) < 16) ∧ (J < s.size → ¬ dgt (btn s J) < 16) := by
 have main : ∀ m, ∀ k, 2 ≤ k → k + m = s.size → (∀ i, 2 ≤ i → i < k → dgt (btn s i) < 16) → ∃ J, 2 ≤ J ∧ J ≤ s.size ∧ (∀ i, 2 ≤ i → i < J → dgt (btn s i) < 16) ∧ (J < s.size → ¬ dgt (btn s J) < 16) := by
  intro m
  induction m with
  | zero => exact fun k h1 h2 h3 => ⟨k, h1, by omega, h3, fun h => absurd h (by omega)⟩
  | succ m ih =>
   intro k h1 h2 h3
   by_cases hd : dgt (btn s k) < 16
   ·refine ih (k + 1) (by omega) (by omega) (fun i hi hi2 => ?_)
    rcases Nat.lt_or_ge i k with h | h
    ·exact h3 i hi h
    ·rw [show i = k by omega]; exact hd
   ·exact ⟨k, h1, by omega, h3, fun _ => hd⟩
 exact main (s.size - 2) 2 (Nat.le_refl _) (by omega) (fun i h1 h2 => absurd h2 (by omega))
theorem Agd {s : ByteArray} : ((bl s).drop 2).all Bh = true ↔ ∀ i, 2 ≤ i → i < s.size → dgt (btn s i) < 16 := by
 rw [List.all_eq_true]
 constructor
 ·intro h i h1 h2
  have hg := Ajl h2
  have : btn s i ∈ (bl s).drop 2 := List.mem_iff_getElem?.2 ⟨i - 2, by rw [List.getElem?_drop, show 2 + (i - 2) = i by omega, hg]⟩
  have := h _ this
  unfold Bh at this
  exact of_decide_eq_true this
 ·intro h c hc
  obtain ⟨j, hj⟩ := List.mem_iff_getElem?.1 hc
  rw [List.getElem?_drop] at hj
  obtain ⟨hk, hb⟩ := Gr hj
  have := h (2 + j) (by omega) hk
  unfold Bh
  refine decide_eq_true ?_
  rw [← hb, Dd s _ hk]
  exact this
theorem Adj (s : ByteArray) (w : World) (hs : s.size ≤ 140737488355328) :
  Ct 115 #[.string s] (.tuple #[.float .f64 (if hxB (bl s) = true then F6 16 ((bl s).drop 2) else 0), .bool (hxB (bl s))]) w := by
 have hbl := Bj s
 have no : hxB (bl s) = false → Cp 115 #[.string s] w (fun e w' => e = .returned (.tuple #[.float .f64 0, .bool false]) ∧ w = w') → Ct 115 #[.string s] (.tuple #[.float .f64 (if hxB (bl s) = true then F6 16 ((bl s).drop 2) else 0), .bool (hxB (bl s))]) w := by
  intro h1 h2
  rw [h1]
  refine h2.mono ?_
  rintro e w' ⟨rfl, rfl⟩
  exact ⟨rfl, Below.refl _ _⟩
 by_cases h3 : s.size < 3
 ·refine no ?_ (Wg s w h3)
  unfold hxB
  have : (bl s).drop 2 = [] := List.drop_eq_nil_iff.2 (by rw [hbl]; omega)
  rw [this]
  simp
 ·have g0 : 0 < s.size := by omega
  have g1 : 1 < s.size := by omega
  have b0 := Cg s 0 g0
  have b1 := Cg s 1 g1
  have hh : (bl s).head? = some (s[0]'g0).toNat := by rw [List.head?_eq_getElem?]; exact b0
  have ht : (bl s).tail.head? = some (s[1]'g1).toNat := by rw [List.head?_eq_getElem?, List.getElem?_tail]; exact b1
  obtain ⟨B0, hB0⟩ : ∃ B : Nat, (s[0]'g0).toNat = B := ⟨_, rfl⟩
  obtain ⟨B1, hB1⟩ : ∃ B : Nat, (s[1]'g1).toNat = B := ⟨_, rfl⟩
  rw [hB0] at hh
  rw [hB1] at ht
  by_cases n0 : B0 = 48
  ·subst n0
   by_cases hx : B1 = 120 ∨ B1 = 88
   ·have hA : hxA (bl s) = true := by
     unfold hxA
     rw [hh, ht]
     rcases hx with rfl | rfl <;> rfl
    have hE : ((bl s).drop 2).isEmpty = false := by
     rw [Bool.eq_false_iff]
     intro h
     have := congrArg List.length (List.isEmpty_iff.1 h)
     rw [List.length_drop, hbl] at this
     simp at this
     omega
    have hB : hxB (bl s) = ((bl s).drop 2).all Bh := by
     unfold hxB
     rw [hA, hE]
     rfl
    obtain ⟨J, j1, j2, j3, j4⟩ := Aa3 s (by omega)
    rcases Nat.lt_or_ge J s.size with hJ | hJ
    ·refine no ?_ ?_
     ·rw [hB, Bool.eq_false_iff]
      intro h
      exact j4 hJ (Agd.1 h J j1 hJ)
     ·rcases hx with rfl | rfl
      ·exact Wn s J w (by omega) (by omega) g0 hB0 g1 hB1 j3 j1 hJ (j4 hJ)
      ·exact Abi s J w (by omega) (by omega) g0 hB0 g1 hB1 j3 j1 hJ (j4 hJ)
    ·have hJs : J = s.size := by omega
     have hall : hxB (bl s) = true := by rw [hB]; exact Agd.2 (fun i h1 h2 => j3 i h1 (by omega))
     have C2 : Hid (∀ W, Ct 202 #[.string (s.extract 2 s.size), .int .i64 16] (.float .f64 (F6 16 ((bl s).drop 2))) W) := Lh (fun W => by
      rw [Jm]
      refine R6 _ 16 W (by omega) (by omega) (fun c hc => ?_) (fun c hc => J7 s c (List.mem_of_mem_drop hc)) (by rw [List.length_drop]; omega)
      have := List.all_eq_true.1 (by rw [← hB]; exact hall) c hc
      exact of_decide_eq_true this)
     rw [hall, if_pos rfl]
     rcases hx with rfl | rfl
     ·exact Yf s J _ w (by omega) (by omega) g0 hB0 g1 hB1 j3 j1 hJs C2
     ·exact Abk s J _ w (by omega) (by omega) g0 hB0 g1 hB1 j3 j1 hJs C2
   ·refine no ?_ (Ajb s B1 w (by omega) g0 hB0 g1 hB1 (fun h => hx (Or.inl h)) (fun h => hx (Or.inr h)))
    unfold hxB hxA
    rw [ht, beq_eq_false_iff_ne.2 (fun e => hx (Or.inl (Option.some.inj e))), beq_eq_false_iff_ne.2 (fun e => hx (Or.inr (Option.some.inj e)))]
    simp
  ·refine no ?_ (Ajk s B0 w (by omega) g0 hB0 n0)
   unfold hxB hxA
   rw [hh, beq_eq_false_iff_ne.2 (fun e => n0 (Option.some.inj e))]
   rfl


end
section
theorem Af0 (s b : ByteArray) (x : Nat) (w : World)
  (CB : Hid (∀ W, Ct 114 #[.string s] (.string b) W))
  (CX : Hid (∀ W, Ct 115 #[.string b] (.tuple #[.float .f64 x, .bool true]) W)) :
  Ct 78 #[.string s] (.tuple #[.float .f64 x, .bool true]) w := by
 have B0 := Lh (Below.refl w.heap.size w)
 go_enter Tryz.func78, Tryz.ntmps78
 go_wp2_with fail
 refine Bm (CB.out _) fun w1 b1 => ?_
 have B1 := Lh (Aa B0.out b1)
 clear b1
 go_wp2_with fail
 refine Bm (CX.out _) fun w2 b2 => ?_
 have B2 := Lh (Aa B1.out b2)
 clear b2
 go_wp2
 go_ret2
 exact ⟨rfl, B2.out⟩
theorem Aap (s b : ByteArray) (x y : Nat) (n : Int) (w : World)
  (CB : Hid (∀ W, Ct 114 #[.string s] (.string b) W))
  (CX : Hid (∀ W, Ct 115 #[.string b] (.tuple #[.float .f64 x, .bool false]) W))
  (CL : Hid (∀ W, Ct 116 #[.string b] (.tuple #[.int .i64 n, .float .f64 y]) W)) (t1 : (n == 0) = true) :
  Ct 78 #[.string s] (.tuple #[.float .f64 0, .bool false]) w := by
 have B0 := Lh (Below.refl w.heap.size w)
 go_enter Tryz.func78, Tryz.ntmps78
 go_wp2_with fail
 refine Bm (CB.out _) fun w1 b1 => ?_
 have B1 := Lh (Aa B0.out b1)
 clear b1
 go_wp2_with fail
 refine Bm (CX.out _) fun w2 b2 => ?_
 have B2 := Lh (Aa B1.out b2)
 clear b2
 go_wp2_with fail
 refine Bm (CL.out _) fun w3 b3 => ?_
 have B3 := Lh (Aa B2.out b3)
 clear b3
 go_wp2
 go_ret2
 exact ⟨rfl, B3.out⟩
theorem Abp (s b : ByteArray) (x y : Nat) (n : Int) (w : World)
  (CB : Hid (∀ W, Ct 114 #[.string s] (.string b) W))
  (CX : Hid (∀ W, Ct 115 #[.string b] (.tuple #[.float .f64 x, .bool false]) W))
  (CL : Hid (∀ W, Ct 116 #[.string b] (.tuple #[.int .i64 n, .float .f64 y]) W)) (t1 : (n == 0) = false) (t2 : (n != (b.size : Int)) = true) :
  Ct 78 #[.string s] (.tuple #[.float .f64 0, .bool false]) w := by
 have B0 := Lh (Below.refl w.heap.size w)
 go_enter Tryz.func78, Tryz.ntmps78
 go_wp2_with fail
 refine Bm (CB.out _) fun w1 b1 => ?_
 have B1 := Lh (Aa B0.out b1)
 clear b1
 go_wp2_with fail
 refine Bm (CX.out _) fun w2 b2 => ?_
 have B2 := Lh (Aa B1.out b2)
 clear b2
 go_wp2_with fail
 refine Bm (CL.out _) fun w3 b3 => ?_
 have B3 := Lh (Aa B2.out b3)
 clear b3
 go_wp2
 go_ret2
 exact ⟨rfl, B3.out⟩
theorem Afn (s b : ByteArray) (x y : Nat) (n : Int) (w : World)
  (CB : Hid (∀ W, Ct 114 #[.string s] (.string b) W))
  (CX : Hid (∀ W, Ct 115 #[.string b] (.tuple #[.float .f64 x, .bool false]) W))
  (CL : Hid (∀ W, Ct 116 #[.string b] (.tuple #[.int .i64 n, .float .f64 y]) W)) (t1 : (n == 0) = false) (t2 : (n != (b.size : Int)) = false) (t3 : ¬ (1 : Int) < (b.size : Int)) :
  Ct 78 #[.string s] (.tuple #[.float .f64 y, .bool true]) w := by
 have B0 := Lh (Below.refl w.heap.size w)
 go_enter Tryz.func78, Tryz.ntmps78
 go_wp2_with fail
 refine Bm (CB.out _) fun w1 b1 => ?_
 have B1 := Lh (Aa B0.out b1)
 clear b1
 go_wp2_with fail
 refine Bm (CX.out _) fun w2 b2 => ?_
 have B2 := Lh (Aa B1.out b2)
 clear b2
 go_wp2_with fail
 refine Bm (CL.out _) fun w3 b3 => ?_
 have B3 := Lh (Aa B2.out b3)
 clear b3
 go_wp2
 go_ret2
 exact ⟨rfl, B3.out⟩
theorem Ya (s b : ByteArray) (x y B : Nat) (n : Int) (w : World)
  (CB : Hid (∀ W, Ct 114 #[.string s] (.string b) W))
  (CX : Hid (∀ W, Ct 115 #[.string b] (.tuple #[.float .f64 x, .bool false]) W))
  (CL : Hid (∀ W, Ct 116 #[.string b] (.tuple #[.int .i64 n, .float .f64 y]) W)) (t1 : (n == 0) = false) (t2 : (n != (b.size : Int)) = false) (t3 : (1 : Int) < (b.size : Int)) (g0 : 0 < b.size) (h0 : (b[0]'g0).toNat = B) (n0 : B ≠ 48) :
  Ct 78 #[.string s] (.tuple #[.float .f64 y, .bool true]) w := by
 have B0 := Lh (Below.refl w.heap.size w)
 have e0 : ((b[0]'g0).toNat : Int) = (B : Int) := by rw [h0]
 have e1 : ((B : Int) == 48) = false := by rw [beq_eq_false_iff_ne]; omega
 clear h0 n0
 go_enter Tryz.func78, Tryz.ntmps78
 go_wp2_with fail
 refine Bm (CB.out _) fun w1 b1 => ?_
 have B1 := Lh (Aa B0.out b1)
 clear b1
 go_wp2_with fail
 refine Bm (CX.out _) fun w2 b2 => ?_
 have B2 := Lh (Aa B1.out b2)
 clear b2
 go_wp2_with fail
 refine Bm (CL.out _) fun w3 b3 => ?_
 have B3 := Lh (Aa B2.out b3)
 clear b3
 go_wp2
 go_ret2
 exact ⟨rfl, B3.out⟩
theorem O1 (s b : ByteArray) (x y B : Nat) (n : Int) (w : World)
  (CB : Hid (∀ W, Ct 114 #[.string s] (.string b) W))
  (CX : Hid (∀ W, Ct 115 #[.string b] (.tuple #[.float .f64 x, .bool false]) W))
  (CL : Hid (∀ W, Ct 116 #[.string b] (.tuple #[.int .i64 n, .float .f64 y]) W)) (t1 : (n == 0) = false) (t2 : (n != (b.size : Int)) = false) (t3 : (1 : Int) < (b.size : Int)) (g0 : 0 < b.size) (h0 : (b[0]'g0).toNat = 48) (g1 : 1 < b.size) (h1 : (b[1]'g1).toNat = B) (hd : Ah B = true) :
  Ct 78 #[.string s] (.tuple #[.float .f64 0, .bool false]) w := by
 have B0 := Lh (Below.refl w.heap.size w)
 have e0 : ((b[0]'g0).toNat : Int) = 48 := by rw [h0]; rfl
 have e1 : ((b[1]'g1).toNat : Int) = (B : Int) := by rw [h1]
 have CD := Lh (fun W => Iz B W)
 rw [hd] at CD
 clear h0 h1 hd
 go_enter Tryz.func78, Tryz.ntmps78
 go_wp2_with fail
 refine Bm (CB.out _) fun w1 b1 => ?_
 have B1 := Lh (Aa B0.out b1)
 clear b1
 go_wp2_with fail
 refine Bm (CX.out _) fun w2 b2 => ?_
 have B2 := Lh (Aa B1.out b2)
 clear b2
 go_wp2_with fail
 refine Bm (CL.out _) fun w3 b3 => ?_
 have B3 := Lh (Aa B2.out b3)
 clear b3
 go_wp2_with fail
 refine Sm (CD.out _) ?_
 go_wp2
 go_ret2
 exact ⟨rfl, B3.out⟩
theorem Nt (s b : ByteArray) (x y B : Nat) (n : Int) (w : World)
  (CB : Hid (∀ W, Ct 114 #[.string s] (.string b) W))
  (CX : Hid (∀ W, Ct 115 #[.string b] (.tuple #[.float .f64 x, .bool false]) W))
  (CL : Hid (∀ W, Ct 116 #[.string b] (.tuple #[.int .i64 n, .float .f64 y]) W)) (t1 : (n == 0) = false) (t2 : (n != (b.size : Int)) = false) (t3 : (1 : Int) < (b.size : Int)) (g0 : 0 < b.size) (h0 : (b[0]'g0).toNat = 48) (g1 : 1 < b.size) (h1 : (b[1]'g1).toNat = B) (hd : Ah B = false) :
  Ct 78 #[.string s] (.tuple #[.float .f64 y, .bool true]) w := by
 have B0 := Lh (Below.refl w.heap.size w)
 have e0 : ((b[0]'g0).toNat : Int) = 48 := by rw [h0]; rfl
 have e1 : ((b[1]'g1).toNat : Int) = (B : Int) := by rw [h1]
 have CD := Lh (fun W => Iz B W)
 rw [hd] at CD
 clear h0 h1 hd
 go_enter Tryz.func78, Tryz.ntmps78
 go_wp2_with fail
 refine Bm (CB.out _) fun w1 b1 => ?_
 have B1 := Lh (Aa B0.out b1)
 clear b1
 go_wp2_with fail
 refine Bm (CX.out _) fun w2 b2 => ?_
 have B2 := Lh (Aa B1.out b2)
 clear b2
 go_wp2_with fail
 refine Bm (CL.out _) fun w3 b3 => ?_
 have B3 := Lh (Aa B2.out b3)
 clear b3
 go_wp2_with fail
 refine Sm (CD.out _) ?_
 go_wp2
 go_ret2
 exact ⟨rfl, B3.out⟩


end
section
theorem Ahf (T : List Nat) : (exR T).length ≤ T.length := by
 unfold exR
 split
 ·unfold expR
  have h1 := Cf (unsg T.tail)
  have h2 : (unsg T.tail).length ≤ T.length := by
   unfold unsg
   split
   ·rw [List.length_tail, List.length_tail]; omega
   ·rw [List.length_tail]; omega
  omega
 ·exact Nat.le_refl _
theorem Agq (l : List Nat) : (dR l).length + (dW l).length + (dF l).length ≤ l.length := by
 have h1 := Cf l
 have h2 := Ahf (dT l)
 have h3 := Cf (Ai l).tail
 rw [List.length_tail] at h3
 unfold dR dW
 unfold dT at h2 ⊢
 unfold dF
 split
 ·next h =>
  rw [if_pos h] at h2
  omega
 ·next h =>
  rw [if_neg h] at h2
  simp only [List.length_nil]
  omega
theorem Wh {l : List Nat} (h : dB l = true) : lgN l = l.length - (dR l).length ∧ 0 < lgN l ∧ lgV l = dV l := by
 have h1 := Agq l
 have h2 : 0 < (dW l).length + (dF l).length := by
  unfold dB at h
  cases hw : dW l with
  | nil =>
   cases hf : dF l with
   | nil => rw [hw, hf] at h; simp at h
   | cons => simp
  | cons => simp; omega
 unfold lgN lgV
 rw [if_pos h, if_pos h]
 exact ⟨rfl, by omega, rfl⟩
theorem Akd {l : List Nat} (h : dB l = false) : lgN l = 0 ∧ lgV l = 0 := by
 unfold lgN lgV
 rw [h]
 exact ⟨rfl, rfl⟩
theorem Ajy {l : List Nat} (h : dB l = true) : lgN l = l.length ↔ dR l = [] := by
 obtain ⟨h1, _, _⟩ := Wh h
 have h2 := Agq l
 rw [h1]
 constructor
 ·intro e
  exact List.length_eq_zero_iff.1 (by have := (Wh h).2.1; omega)
 ·intro e
  rw [e, List.length_nil, Nat.sub_zero]
theorem Afo {s : ByteArray} (h : s.size ≤ 140737488355328) : (nrw 1 (us s)).length ≤ 70368744177664 := by
 rw [Z8, Ab]
 have := Ap s
 omega
theorem Qo (s : ByteArray) (w : World) (hs : s.size ≤ 140737488355328) :
  Ct 78 #[.string s] (.tuple #[.float .f64 (Jv (nrw 1 (us s))), .bool (Hd (nrw 1 (us s)))]) w := by
 have hl := Af1 (z := 1) (by omega) (us s)
 have hln := Afo hs
 have CB := Lh (fun W => Xi s W hs)
 obtain ⟨l, hll⟩ : ∃ l, nrw 1 (us s) = l := ⟨_, rfl⟩
 rw [hll] at CB hl hln ⊢
 have hb := Al (fun c hc => (by have := hl c hc; omega : c < 256))
 have hz := Ak l
 have CX := fun W => Adj (Ad l) W (by omega)
 have CL := Lh (fun W => Rk (Ad l) W (by omega))
 rw [hb] at CX CL
 cases hx : hxB l
 ·rw [hx] at CX
  have hV : Jv l = if Hd l = true then dV l else 0 := by unfold Jv; rw [hx]; rfl
  have hB : Hd l = (dB l && (dR l).isEmpty && !(l.head? == some 48 && (l.tail.head?.map Ah == some true))) := by unfold Hd; rw [hx]; rfl
  rw [hV, hB]
  cases hd : dB l
  ·obtain ⟨h1, h2⟩ := Akd hd
   rw [h1, h2] at CL
   exact Aap s (Ad l) _ _ _ w CB (Lh CX) CL rfl
  ·obtain ⟨h1, h2, h3⟩ := Wh hd
   have h4 := Ajy hd
   rw [h3] at CL
   have t1 : (((lgN l : Nat) : Int) == 0) = false := by rw [beq_eq_false_iff_ne]; omega
   cases hr : dR l with
   | cons a q =>
    have t2 : (((lgN l : Nat) : Int) != ((Ad l).size : Int)) = true := by
     rw [bne_iff_ne, hz]
     intro e
     have := h4.1 (by omega)
     rw [hr] at this
     cases this
    exact Abp s (Ad l) _ _ _ w CB (Lh CX) CL t1 t2
   | nil =>
    have hn := h4.2 hr
    have t2 : (((lgN l : Nat) : Int) != ((Ad l).size : Int)) = false := by
     rw [bne_eq_false_iff_eq, hz]
     omega
    cases l with
    | nil => rw [hn] at h2; simp at h2
    | cons c0 l1 =>
     cases l1 with
     | nil =>
      have := Afn s (Ad [c0]) _ _ _ w CB (Lh CX) CL t1 t2 (by rw [hz]; simp)
      simpa using this
     | cons c1 q =>
      have t3 : (1 : Int) < ((Ad (c0 :: c1 :: q)).size : Int) := by rw [hz]; simp only [List.length_cons]; omega
      have g0 : 0 < (Ad (c0 :: c1 :: q)).size := by omega
      have g1 : 1 < (Ad (c0 :: c1 :: q)).size := by omega
      have b0 := Cg _ 0 g0
      have b1 := Cg _ 1 g1
      rw [hb] at b0 b1
      have e0 : c0 = ((Ad (c0 :: c1 :: q))[0]'g0).toNat := Option.some.inj b0
      have e1 : c1 = ((Ad (c0 :: c1 :: q))[1]'g1).toNat := Option.some.inj b1
      by_cases n0 : c0 = 48
      ·subst n0
       cases hg : Ah c1
       ·have := Nt s (Ad (48 :: c1 :: q)) _ _ c1 _ w CB (Lh CX) CL t1 t2 t3 g0 e0.symm g1 e1.symm hg
        simpa [hg] using this
       ·have := O1 s (Ad (48 :: c1 :: q)) _ _ c1 _ w CB (Lh CX) CL t1 t2 t3 g0 e0.symm g1 e1.symm hg
        simpa [hg] using this
      ·have := Ya s (Ad (c0 :: c1 :: q)) _ _ c0 _ w CB (Lh CX) CL t1 t2 t3 g0 e0.symm n0
       have n48 : (c0 == 48) = false := beq_eq_false_iff_ne.2 n0
       simpa [n48] using this
 ·rw [hx, if_pos rfl] at CX
  have hV : Jv l = F6 16 (l.drop 2) := by unfold Jv; exact if_pos hx
  have hB : Hd l = true := by unfold Hd; rw [hx]; rfl
  rw [hV, hB]
  exact Af0 s (Ad l) _ w CB (Lh CX)

end
section
def mrkS : List ByteArray := [⟨#[62, 62, 62, 61]⟩, ⟨#[61, 61, 61]⟩, ⟨#[33, 61, 61]⟩, ⟨#[62, 62, 62]⟩, ⟨#[60, 60, 61]⟩, ⟨#[62, 62, 61]⟩, ⟨#[60, 61]⟩, ⟨#[62, 61]⟩, ⟨#[61, 61]⟩, ⟨#[33, 61]⟩, ⟨#[43, 43]⟩, ⟨#[45, 45]⟩, ⟨#[60, 60]⟩, ⟨#[62, 62]⟩, ⟨#[38, 38]⟩, ⟨#[124, 124]⟩, ⟨#[43, 61]⟩, ⟨#[45, 61]⟩, ⟨#[42, 61]⟩, ⟨#[37, 61]⟩, ⟨#[38, 61]⟩, ⟨#[124, 61]⟩, ⟨#[94, 61]⟩, ⟨#[47, 61]⟩, ⟨#[123]⟩, ⟨#[125]⟩, ⟨#[40]⟩, ⟨#[41]⟩, ⟨#[91]⟩, ⟨#[93]⟩, ⟨#[46]⟩, ⟨#[59]⟩, ⟨#[44]⟩, ⟨#[60]⟩, ⟨#[62]⟩, ⟨#[43]⟩, ⟨#[45]⟩, ⟨#[42]⟩, ⟨#[37]⟩, ⟨#[38]⟩, ⟨#[124]⟩, ⟨#[94]⟩, ⟨#[33]⟩, ⟨#[126]⟩, ⟨#[63]⟩, ⟨#[58]⟩, ⟨#[61]⟩, ⟨#[47]⟩]
theorem Aio : mrkS.map wdL = marksL := by decide +kernel
theorem S7 : mrkS.length = 48 := by decide +kernel
theorem Ab1 : ∀ t ∈ mrkS, t.size ≤ 8 := by decide +kernel
theorem Rm (w : World) (cs : List Value) (t : TypeId) (j : Nat) (u : Value) (h : cs[j]? = some u) : (w.alloc (.cells cs.toArray t)).cell? ⟨w.heap.size, j, none⟩ = some u := by
 have h2 := Vk w cs t j u h
 by_cases hj : j = 0
 ·subst hj; simpa [Addr.add] using h2
 ·simpa [Addr.add, hj] using h2
theorem Wa (w : World) : Cp 81 #[] w fun e w' => e = .returned (.slice (some ⟨w.heap.size, 0, none⟩) 48 48) ∧ (∀ j t, mrkS[j]? = some t → w'.cell? ⟨w.heap.size, j, none⟩ = some (.string t)) ∧ w.heap.size < w'.heap.size ∧ Below w.heap.size w w' := by
 go_enter Tryz.func81, Tryz.ntmps81
 go_wp2
 go_ret
 refine ⟨rfl, fun j t h => ?_, by simp, (Below.refl _ _).alloc (Nat.le_refl _) _⟩
 exact Rm w (mrkS.map Value.string) 9 j (.string t) (by rw [List.getElem?_map, h]; rfl)
theorem V0 (s : ByteArray) (k c : Nat) (w : World) (hs : s.size ≤ 4398046511104) (hk : k < ln s) (hc : hd0 ((us s).drop k) = c) (h : (Ah c || (c == 46 && Ah (hd0 ((us s).drop (k + 1))))) = true) :
  Cp 40 #[.string s, .int .i64 k] w fun e w' => TkZ k ((N8 ((us s).drop k)).map fun p => (5, [], p.1, false, p.2)) e ∧ Below w.heap.size w w' := by
 have hs63 : s.size ≤ maxLen := by unfold maxLen; omega
 have hln := Ap s
 have hzc : zU ((us s).drop k) = c := by
  rcases hd : (us s).drop k with _ | ⟨a, r⟩
  ·exfalso; rw [List.drop_eq_nil_iff, Ab] at hd; omega
  ·rw [hd] at hc; exact hc
 have C0 := fun W => Ce s k W hs63
 rw [hzc] at C0
 have C0 := Lh C0
 have hcd : Ah c = true ∨ (Ah c = false ∧ c = 46 ∧ Ah (hd0 ((us s).drop (k + 1))) = true) := by
  cases hd : Ah c
  ·rw [hd, Bool.false_or, Bool.and_eq_true, beq_iff_eq] at h; exact .inr ⟨rfl, h⟩
  ·exact .inl rfl
 have hcl : c < 128 := by
  rcases hcd with h | h
  ·exact Adv h
  ·omega
 have hst : stN c = false := by
  have key : ∀ k : Fin 128, (Ah k.val = true ∨ k.val = 46) → stN k.val = false := by decide +kernel
  refine key ⟨c, hcl⟩ ?_
  rcases hcd with h | h
  ·exact .inl h
  ·exact .inr h.2.1
 have g92 : ((c : Int) == 92) = false := by
  rw [beq_eq_false_iff_ne]
  rcases hcd with h | h
  ·have := Ca.1 h; omega
  ·omega
 have CT := fun W => Du (c : Int) W
 rw [show stB (c : Int) = false from hst] at CT
 have CT := Lh CT
 have CD := fun W => Bn c W
 obtain ⟨l, hl⟩ : ∃ l, (us s).drop k = l := ⟨_, rfl⟩
 obtain ⟨n, hn⟩ : ∃ n, Dx l = n := ⟨_, rfl⟩
 have hkn : k + n ≤ ln s := by
  have h1 := Zj l
  have h2 := congrArg List.length hl
  rw [List.length_drop, Ab] at h2
  omega
 have C1 := fun W => Vf s k W (by omega) (by omega)
 rw [hl, hn] at C1
 have C1 := Lh C1
 obtain ⟨X, hX⟩ : ∃ X, slS s (k : Int) ((k + n : Nat) : Int) = X := ⟨_, rfl⟩
 have hu : us X = l.take n := by
  have h := Xq s k (k + n) hkn
  rw [hX, hl, Nat.add_sub_cancel_left] at h
  exact h
 have hXs : X.size ≤ 140737488355328 := by
  have h2 := Qn s k n hkn
  rw [hX] at h2
  rw [h2]
  show (bL _).toArray.size ≤ _
  rw [List.size_toArray, Dl, List.length_take]
  omega
 have C2 := fun W => We s (k : Int) ((k + n : Nat) : Int) W hs63
 rw [hX] at C2
 have C2 := Lh C2
 have C3 := fun W => Qo X W hXs
 have hna := Agt l
 rw [hn] at hna
 rw [hu, Yx hna] at C3
 obtain ⟨d, hd⟩ : ∃ d, hd0 ((us s).drop (k + n)) = d := ⟨_, rfl⟩
 obtain ⟨th, hth⟩ : ∃ b, (!((us s).drop (k + n)).isEmpty) = b := ⟨_, rfl⟩
 have C4 := fun W => Bz s (k + n) W hs63
 rw [hd, hth] at C4
 have hd00 : th = false → d = 0 := by
  intro h
  rw [h] at hth
  rcases h2 : (us s).drop (k + n) with _ | ⟨a, r⟩
  ·rw [h2] at hd; exact hd.symm
  ·rw [h2] at hth; cases hth
 have C5 := fun W => Bn d W
 have C6 := fun W => Du (d : Int) W
 obtain ⟨lb, hlb⟩ : ∃ b, Hd (l.take n) = b := ⟨_, rfl⟩
 obtain ⟨F, hF⟩ : ∃ F, Jv (l.take n) = F := ⟨_, rfl⟩
 rw [hF, hlb] at C3
 have C3 := Lh C3
 obtain ⟨m, hm⟩ : ∃ m, k + n = m := ⟨_, rfl⟩
 have HE : Hid (∀ (b : Bool) e, b = (lb && !(ptN d || d == 92)) → e = Ending.returned (.tuple #[.agg #[.int .i64 5, .string ⟨#[]⟩, .float .f64 F, .bool false, .bool false, .int .i64 (k : Int), .int .i64 (m : Int)], .bool b]) → TkZ k ((N8 l).map fun p => (5, [], p.1, false, p.2)) e) := Lh (by
  intro b e hb he
  have hO : Ja l n = b := by
   unfold Ja
   rw [← hl, List.drop_drop, hd, hl, hlb, hb]
  unfold N8
  rw [hn, hO]
  cases b
  ·exact ⟨_, _, _, _, _, _, _, he⟩
  ·rw [he, hF]
   show _ = Ending.returned (.tuple #[tkV 5 ⟨(bL []).toArray⟩ F false false k (k + n), .bool true])
   rw [hm]
   rfl)
 have hpt : ptN d = (stN d || Ah d) := by
  unfold ptN ptB stN Ah
  congr 1
  rw [Bool.eq_iff_iff]
  simp
  omega
 rw [hpt] at HE
 rw [hm] at C1 C2 C4
 have T0 := Lh (TB.start w)
 have hkl : (k : Int) ≤ 2199023255552 := by omega
 have CN := fun W => Ce s (k + 1) W hs63
 have hzd := Jl ((us s).drop (k + 1))
 obtain ⟨u, hu1⟩ : ∃ u, zU ((us s).drop (k + 1)) = u := ⟨_, rfl⟩
 rw [hu1] at CN hzd
 have CN := Lh (show ∀ W, Cp 45 #[.string s, .int .i64 ((k : Int) + 1)] W fun e w' => e = .returned (.int .u16 (u : Nat)) ∧ ∃ n, w' = W.drewN n from CN)
 have CO := fun W => Bn u W
 rw [hl]
 clear hs hs63 hln hk hc hzc hu hXs hna hd hth hlb hF hn hl hX hkn hm hpt h hcl hst hu1
 have hw : ∃ b : Bool, b = (lb && !((stN d || Ah d) || d == 92)) ∧ ((th = false ∧ b = lb) ∨ (th = true ∧ Ah d = true ∧ b = false) ∨ (th = true ∧ Ah d = false ∧ stN d = true ∧ b = false) ∨ (th = true ∧ Ah d = false ∧ stN d = false ∧ ((d : Int) == 92) = true ∧ b = false) ∨ (th = true ∧ Ah d = false ∧ stN d = false ∧ ((d : Int) == 92) = false ∧ b = lb)) := by
  cases hth : th
  ·obtain rfl := hd00 hth
   exact ⟨lb, by cases lb <;> rfl, .inl ⟨rfl, rfl⟩⟩
  ·cases h1 : Ah d
   ·cases h2 : stN d
    ·by_cases h3 : d = 92
     ·exact ⟨false, by rw [h3]; cases lb <;> rfl, .inr (.inr (.inr (.inl ⟨rfl, rfl, rfl, by rw [h3]; rfl, rfl⟩)))⟩
     ·exact ⟨lb, by rw [show (d == 92) = false by rw [beq_eq_false_iff_ne]; exact h3]; cases lb <;> rfl, .inr (.inr (.inr (.inr ⟨rfl, rfl, rfl, by rw [beq_eq_false_iff_ne]; omega, rfl⟩)))⟩
    ·exact ⟨false, by cases lb <;> rfl, .inr (.inr (.inl ⟨rfl, rfl, rfl, rfl⟩))⟩
   ·exact ⟨false, by cases lb <;> cases stN d <;> rfl, .inr (.inl ⟨rfl, rfl, rfl⟩)⟩
 obtain ⟨b, hb, hw⟩ := hw
 have HF := Lh (fun e => HE.out b e hb)
 clear hd00 hb HE
 rcases hcd with hcd | ⟨hcd, rfl, hdd⟩ <;> rcases hw with ⟨rfl, rfl⟩ | ⟨rfl, h5, rfl⟩ | ⟨rfl, h5, h6, rfl⟩ | ⟨rfl, h5, h6, h92, rfl⟩ | ⟨rfl, h5, h6, h92, rfl⟩
 all_goals
  rw [hcd] at CD
  have CD := Lh CD
  first | rw [hzd, hdd] at CO | skip
  first | rw [h5] at C5 | skip
  first | rw [show stB (d : Int) = _ from h6] at C6 | skip
  have CO := Lh CO
  have C4 := Lh C4
  have C5 := Lh C5
  have C6 := Lh C6
  clear hcd hzd
  go_enter Tryz.func40, Tryz.ntmps40
  go_wp2_with fail
  refine Dm (C0.out _) fun n0 => ?_
  go_wp2_with fail
  refine Sm (CT.out _) ?_
  go_wp2_with fail
  refine Sm (CD.out _) ?_
  go_wp2_with (first | (go_at_call 45; refine (CN.out _).mono ?_; rintro e w' ⟨rfl, n9, rfl⟩) | (go_at_call 76; refine (CO.out _).mono ?_; rintro e w' ⟨rfl, rfl⟩))
  refine Dm (C1.out _) fun n1 => ?_
  go_wp2_with fail
  refine Sm (C2.out _) ?_
  go_wp2_with fail
  refine Bm (C3.out _) fun w3 b3 => ?_
  have T2 := (T0.out.draw _).step b3
  go_wp2_with fail
  refine Dm (C4.out _) fun n4 => ?_
  have T3 := T2.draw n4
  have HG := Lh T3.bl
  have HB := Lh T3.bw
  clear T2 T3 b3
  go_wp2_with (first | (go_at_call 76; refine (C5.out _).mono ?_; rintro e w' ⟨rfl, rfl⟩) | (go_at_call 51; refine (C6.out _).mono ?_; rintro e w' ⟨rfl, rfl⟩) | (refine tkS rfl rfl w.heap.size 5 ⟨#[]⟩ F false false k m rfl rfl HG.out ?_))
  refine tkR rfl rfl HG.out rfl rfl ⟨?_, Ae HB.out (Nat.le_refl _) _⟩
  exact HF.out _ rfl

end
section
theorem Vg : (Tryz.prog.info? 24).map (fun i => (i.zero, i.size, i.bytes)) = some (some (.agg #[.int .i64 0, .string ⟨#[]⟩, .float .f64 0, .bool false, .bool false, .int .i64 0, .int .i64 0]), 7, 56) := by kernel_rfl
def tkC (t : Tok) : List Value := [.int .i64 (t.kind : Int), .string ⟨(bL t.text).toArray⟩, .float .f64 t.num, .bool t.esc, .bool t.nl, .int .i64 (t.pos : Int), .int .i64 (t.fin : Int)]
def OwnT (B : Nat) (ts : List Tok) (v : Value) (w : World) : Prop := w.ownsRow B 24 7 v ts.length (ts.flatMap tkC)
theorem OwnT.nil (B : Nat) (w : World) : OwnT B [] (.slice none 0 0) w := World.ownsRow_nil _ _ _ _
def Ake (B : Nat) (r : Nat × Option (List Tok)) (w : World) (e : Ending) (w' : World) : Prop :=
 (match r with
  | (p, none) => e = .returned (.tuple #[.slice none 0 0, .int .i64 (p : Int), .int .i64 60])
  | (_, some ts) => ∃ v, e = .returned (.tuple #[v, .int .i64 0, .int .i64 0]) ∧ OwnT B ts v w') ∧ Below B w w'
theorem OwnT.below {B : Nat} {ts : List Tok} {v : Value} {w w' : World} (h : OwnT B ts v w) (hb : Below w.heap.size w w') : OwnT B ts v w' := by
 refine h.kept (row := none) ⟨hb.os, hb.tape, hb.output, hb.size, fun k hk _ => hb.block k hk⟩ ?_
 cases v.ownBlock <;> simp
theorem Wc {p q : Nat} {l : List Nat} {t : Tok} (h : If p l = (q, some t)) (hk : t.kind ≠ 1) : p < t.fin := by
 unfold If at h
 split at h
 ·cases h
 ·split at h
  ·cases h
  ·rename_i k tx x e n hr
   cases h
   obtain ⟨h1, h2, h3, _⟩ := Kg hr
   have := h3 (fun e => hk (h2.2 e))
   show p < p + (As l).1 + n
   omega
theorem Po (w1 : World) (kd po fi : Int) (tx : ByteArray) (xx : Nat) (es nl : Bool) : ∀ j u, ([.int .i64 kd, .string tx, .float .f64 xx, .bool es, .bool nl, .int .i64 po, .int .i64 fi] : List Value)[j]? = some u → ((w1.alloc (.cells #[.int .i64 kd, .string tx, .float .f64 xx, .bool es, .bool nl, .int .i64 po, .int .i64 fi] 24)).alloc (.cells #[.int .i64 kd, .string tx, .float .f64 xx, .bool es, .bool nl, .int .i64 po, .int .i64 fi] 24)).cell? (Addr.add ⟨w1.heap.size + 1, 0, none⟩ j) = some u := by
 intro j u h
 obtain ⟨V, hV⟩ : ∃ V, w1.alloc (.cells #[.int .i64 kd, .string tx, .float .f64 xx, .bool es, .bool nl, .int .i64 po, .int .i64 fi] 24) = V := ⟨_, rfl⟩
 have hs : w1.heap.size + 1 = V.heap.size := by rw [← hV]; simp
 rw [hV, hs]
 have h2 := heap_alloc_last V (.cells #[.int .i64 kd, .string tx, .float .f64 xx, .bool es, .bool nl, .int .i64 po, .int .i64 fi] 24)
 have e : Addr.add ⟨V.heap.size, 0, none⟩ j = ⟨V.heap.size, j, none⟩ := by
  unfold Addr.add
  by_cases hj : j = 0 <;> simp [hj]
 rw [e]
 unfold World.cell?
 simp only []
 rw [h2]
 simpa using h
theorem Pv (w1 : World) (kd po fi : Int) (tx : ByteArray) (xx : Nat) (es nl : Bool) : ((w1.alloc (.cells #[.int .i64 kd, .string tx, .float .f64 xx, .bool es, .bool nl, .int .i64 po, .int .i64 fi] 24)).alloc (.cells #[.int .i64 kd, .string tx, .float .f64 xx, .bool es, .bool nl, .int .i64 po, .int .i64 fi] 24)).heap[w1.heap.size]? = some (.cells #[.int .i64 kd, .string tx, .float .f64 xx, .bool es, .bool nl, .int .i64 po, .int .i64 fi] 24 (0, 0)) := by
 obtain ⟨V, hV⟩ : ∃ V, w1.alloc (.cells #[.int .i64 kd, .string tx, .float .f64 xx, .bool es, .bool nl, .int .i64 po, .int .i64 fi] 24) = V := ⟨_, rfl⟩
 have hs : w1.heap.size + 1 = V.heap.size := by rw [← hV]; simp
 have h2 : V.heap[w1.heap.size]? = some (.cells #[.int .i64 kd, .string tx, .float .f64 xx, .bool es, .bool nl, .int .i64 po, .int .i64 fi] 24 (0, 0)) := by rw [← hV]; exact heap_alloc_last w1 _
 rw [hV]
 exact (((Below.refl V.heap.size V).alloc (Nat.le_refl _) _).block _ (by omega)).trans h2
def Is (ts : List Tok) : Nat × Option (List Tok) → Nat × Option (List Tok)
 | (q, none) => (q, none)
 | (_, some us) => (0, some (ts ++ us))
theorem Tc (s : ByteArray) (w : World) (hs : s.size ≤ 4398046511104) :
    Cp 13 #[.string s] w (Ake w.heap.size (O4 (us s)) w) := by
  obtain ⟨i0, hi, hz0, hz1, hz2⟩ := info_parts Vg
  have hln := Ap s
  have CN := Lh (fun (j : Nat) (hj : j ≤ ln s) W => Pr s j false W hs hj)
  obtain ⟨R, hR⟩ : ∃ R, O4 (us s) = R := ⟨_, rfl⟩
  have hR0 : Is [] (Ij 0 ((us s).drop 0)) = R := by
    rw [← hR, List.drop_zero]
    show Is [] (O4 (us s)) = _
    rcases h : O4 (us s) with ⟨q, _ | ts⟩
    · rfl
    · have h2 : Ij 0 (us s) = (q, some ts) := h
      rw [Ge] at h2
      have : q = 0 := by
        rcases h3 : If 0 (us s) with ⟨q1, _ | t⟩
        · rw [h3] at h2
          cases h2
        · rw [h3] at h2
          simp only [] at h2
          split at h2
          · cases h2; rfl
          · split at h2
            · cases h2
            · cases h2; rfl
      rw [this]
      rfl
  rw [hR]
  have HR := Lh hR0
  have HL := Lh (show ln s ≤ 2199023255552 by omega)
  clear hs hln hR hR0
  go_enter Tryz.func13, Tryz.ntmps13
  go_wp2
  go_loopw [5, 6] (fun lv av wr => ∃ (j : Nat) (ts : List Tok) (v : Value), lv = v ∧ av = .int .i64 j ∧ j ≤ ln s ∧ Hid (ts.length ≤ j ∧ Is ts (Ij j ((us s).drop j)) = R) ∧ OwnT w.heap.size ts v wr ∧ Below w.heap.size w wr) (fun _ av _ => ln s - (intOf av).toNat)
  case atStart => exact ⟨0, [], _, rfl, by go_num, Nat.zero_le _, Lh ⟨Nat.zero_le _, HR.out⟩, OwnT.nil _ _, Below.refl _ _⟩
  case round =>
    obtain ⟨j, ts, v, hv, rfl, hj, HJ, H, hb⟩ := hrel
    obtain rfl := hv.symm
    have C1 := CN.out j hj
    rw [N9] at C1
    obtain ⟨h1, h2⟩ := HJ.out
    rw [Ge] at h2
    have hsz := hb.size
    have H1 := Lh h1
    have HJ3 := Lh hj
    have htl : ts.length ≤ 2199023255552 := by have := HL.out; omega
    clear HJ h1 hj
    rcases hn : If j ((us s).drop j) with ⟨q, _ | t⟩
    · rw [hn] at C1 h2
      obtain rfl : R = (q, none) := h2.symm
      have C1 := Lh (show ∀ W, Cp 9 #[.string s, .int .i64 j, .bool false] W fun e w' => e = .returned (.tuple #[.agg #[.int .i64 0, .string ⟨#[]⟩, .float .f64 0, .bool false, .bool false, .int .i64 0, .int .i64 0], .int .i64 (q : Nat), .int .i64 60]) ∧ Below W.heap.size W w' from C1)
      clear hn h2 HR htl
      go_wp2_with fail
      refine Bm (C1.out _) fun w1 b1 => ?_
      have hb2 := Lh ((hb.trans (b1.mono hsz)).alloc (by have := b1.size; omega) (.cells #[.int .i64 0, .string ⟨#[]⟩, .float .f64 0, .bool false, .bool false, .int .i64 0, .int .i64 0] 24))
      clear hb b1 H
      go_wp2_with (first | (refine tkS rfl rfl w1.heap.size 0 ⟨#[]⟩ 0 false false 0 0 rfl rfl (heap_alloc_last w1 _) ?_; rw [World.setRow_alloc_new]))
      go_ret3
      exact ⟨rfl, hb2.out⟩
    · rw [hn] at C1 h2
      obtain ⟨n1, n2, n3, n4, n5, n6, rfl⟩ := X8 hn
      rw [List.length_drop, Ab] at n3
      have hfl : t.fin ≤ ln s := by have := HJ3.out; omega
      have n7 := fun h => Wc hn h
      have C1 := Lh (show ∀ W, Cp 9 #[.string s, .int .i64 j, .bool false] W fun e w' => e = .returned (.tuple #[.agg #[.int .i64 (t.kind : Int), .string ⟨(bL t.text).toArray⟩, .float .f64 t.num, .bool t.esc, .bool t.nl, .int .i64 (t.pos : Int), .int .i64 (t.fin : Int)], .int .i64 0, .int .i64 0]) ∧ Below W.heap.size W w' from C1)
      have HT : Hid (tkC t = [.int .i64 (t.kind : Int), .string ⟨(bL t.text).toArray⟩, .float .f64 t.num, .bool t.esc, .bool t.nl, .int .i64 (t.pos : Int), .int .i64 (t.fin : Int)]) := Lh rfl
      obtain ⟨kd, hkd⟩ : ∃ kd : Int, (t.kind : Int) = kd := ⟨_, rfl⟩
      obtain ⟨tx, htx⟩ : ∃ tx : ByteArray, (⟨(bL t.text).toArray⟩ : ByteArray) = tx := ⟨_, rfl⟩
      obtain ⟨fi, hfi⟩ : ∃ fi : Int, (t.fin : Int) = fi := ⟨_, rfl⟩
      obtain ⟨po, hpo⟩ : ∃ po : Int, (t.pos : Int) = po := ⟨_, rfl⟩
      obtain ⟨xx, hxx⟩ : ∃ xx, t.num = xx := ⟨_, rfl⟩
      obtain ⟨es, hes⟩ : ∃ es, t.esc = es := ⟨_, rfl⟩
      obtain ⟨nl, hnl⟩ : ∃ nl, t.nl = nl := ⟨_, rfl⟩
      rw [hkd, htx, hfi, hpo, hxx, hes, hnl] at C1 HT
      have HKD := Lh hkd
      have HFI := Lh hfi
      have HFL := Lh hfl
      have N7 := Lh n7
      have HX : Hid (if t.kind = 1 then R = (0, some (ts ++ [t])) else Is (ts ++ [t]) (Ij t.fin ((us s).drop t.fin)) = R) := Lh (by
        rw [← h2]
        simp only []
        split
        · rfl
        · rw [List.drop_drop, show j + (t.fin - j) = t.fin by omega]
          rcases Ij t.fin ((us s).drop t.fin) with ⟨q, _ | us⟩
          · rfl
          · simp [Is])
      clear htx hfi hpo hxx hes hnl hn h2 n1 n2 n3 n4 n5 n6 n7 hfl HR
      have main : ∀ b : Bool, decide (t.kind = 1) = b → (kd == 1) = b := fun b h => by
        rw [← h, ← hkd, Bool.eq_iff_iff]
        simp
        omega
      clear hkd
      cases hk : decide (t.kind = 1)
      all_goals
        have g1 := main _ hk
        have HK := Lh hk
        clear main hk
        go_wp2_with fail
        refine Bm (C1.out _) fun w1 b1 => ?_
        have hb1 := hb.trans (b1.mono hsz)
        have o1 := OwnT.below H b1
        have hs1 := b1.size
        have HLT := Lh (fun k hk => World.ownsRow.lt H k hk)
        clear H hb b1
        have HC1 := Lh (Po w1 kd po fi tx xx es nl)
        have HC2 : Hid (∀ u ∈ ([.int .i64 kd, .string tx, .float .f64 xx, .bool es, .bool nl, .int .i64 po, .int .i64 fi] : List Value), u.oneCell' = true) := Lh (by simp [Value.oneCell'])
        have HC3 : Hid (w.heap.size ≤ ((w1.alloc (.cells #[.int .i64 kd, .string tx, .float .f64 xx, .bool es, .bool nl, .int .i64 po, .int .i64 fi] 24)).alloc (.cells #[.int .i64 kd, .string tx, .float .f64 xx, .bool es, .bool nl, .int .i64 po, .int .i64 fi] 24)).heap.size) := Lh (by simp; omega)
        go_wp2_with (first | (refine tkS rfl rfl w1.heap.size kd tx xx es nl po fi rfl rfl (heap_alloc_last w1 _) ?_; rw [World.setRow_alloc_new]) | (at_builtin; refine wpList_append_own _ rfl _ _ 31 rfl w.heap.size 24 i0 (.agg #[.int .i64 0, .string ⟨#[]⟩, .float .f64 0, .bool false, .bool false, .int .i64 0, .int .i64 0]) 7 56 Tryz.underlying31 hi hz0 hz1 hz2 rfl (by decide) _ _ _ rfl (World.ownsRow.alloc (w := w1.alloc (.cells #[.int .i64 kd, .string tx, .float .f64 xx, .bool es, .bool nl, .int .i64 po, .int .i64 fi] 24)) (World.ownsRow.alloc (w := w1) o1 _) _) ⟨w1.heap.size + 1, 0, none⟩ 1 1 [.int .i64 kd, .string tx, .float .f64 xx, .bool es, .bool nl, .int .i64 po, .int .i64 fi] rfl rfl HC1.out HC2.out (by unfold maxLen; omega) (by omega) HC3.out ?_))
        intro v' w2 hown hg _
        have o2 : OwnT w.heap.size (ts ++ [t]) v' w2 := by
          unfold OwnT
          rw [List.length_append, List.flatMap_append, List.flatMap_cons, List.flatMap_nil, List.append_nil, HT.out]
          exact hown
        have hG : w2.heap[w1.heap.size]? = some (.cells #[.int .i64 kd, .string tx, .float .f64 xx, .bool es, .bool nl, .int .i64 po, .int .i64 fi] 24 (0, 0)) := (hg.block _ (by simp; omega) (fun e => by have := (HLT.out _ e.symm).2; omega)).trans (Pv w1 kd po fi tx xx es nl)
        have c0 : w2.cell? ⟨w1.heap.size, 0, none⟩ = some (.int .i64 kd) := by simp [World.cell?, hG]
        have c6 : w2.cell? ⟨w1.heap.size, 6, none⟩ = some (.int .i64 fi) := by simp [World.cell?, hG]
        have hb2 : Below w.heap.size w w2 := ((hb1.alloc (by omega) (.cells #[.int .i64 kd, .string tx, .float .f64 xx, .bool es, .bool nl, .int .i64 po, .int .i64 fi] 24)).alloc (by simp; omega) (.cells #[.int .i64 kd, .string tx, .float .f64 xx, .bool es, .bool nl, .int .i64 po, .int .i64 fi] 24)).grown hg HC3.out (fun k hk => (HLT.out k hk).1)
        clear hown hg hG o1 hb1
        go_wp2
        first
          | (go_ret3
             have hR := HX.out
             rw [if_pos (by simpa using HK.out)] at hR
             rw [hR]
             exact ⟨⟨v', rfl, o2⟩, hb2⟩)
          | (go_roundw
             case rel =>
               have hk1 : t.kind ≠ 1 := by simpa using HK.out
               have hR := HX.out
               rw [if_neg hk1] at hR
               exact ⟨t.fin, ts ++ [t], v', rfl, by rw [HFI.out], HFL.out, Lh ⟨by rw [List.length_append, List.length_singleton]; have := H1.out; have := N7.out hk1; omega, hR⟩, o2, hb2⟩
             case measure =>
               have hk1 : t.kind ≠ 1 := by simpa using HK.out
               have := N7.out hk1
               have := HFL.out
               have := HFI.out
               simp [intOf]
               omega)

end
section
def awT : List Tok := [⟨2, [97], 0, false, false, 0, 1⟩, ⟨4, [43, 43], 0, false, false, 1, 3⟩, ⟨4, [43], 0, false, false, 3, 4⟩, ⟨2, [98], 0, false, false, 4, 5⟩, ⟨1, [], 0, false, false, 5, 5⟩]
theorem Ab4 : O4 [97, 43, 43, 43, 98] = (0, some awT) := by kernel_rfl
theorem Sk {B : Nat} {ts : List Tok} {v : Value} {w : World} (h : OwnT B ts v w) : (ts = [] ∧ v = .slice none 0 0) ∨ ∃ g cap, v = .slice (some ⟨g, 0, none⟩) ts.length cap ∧ ts.length ≤ cap ∧ B ≤ g ∧ g < w.heap.size ∧ ∀ i x, (ts.flatMap tkC)[i]? = some x → w.cell? ⟨g, i, none⟩ = some x := by
 obtain ⟨hn, h⟩ := h
 rcases h with ⟨hv, h0⟩ | ⟨g, cap, cur, hv, hb, hg, hc, hm, hsz, ht⟩
 ·exact .inl ⟨List.eq_nil_of_length_eq_zero h0, hv⟩
 ·refine .inr ⟨g, cap, hv, hc, hb, (Array.getElem?_eq_some_iff.1 hg).1, fun i x hx => ?_⟩
  have hi : i < ts.length * 7 := by rw [← hn]; exact (List.getElem?_eq_some_iff.1 hx).1
  rw [← ht, List.getElem?_take_of_lt hi] at hx
  unfold World.cell?
  simp only []
  rw [hg]
  simpa using hx
theorem At {W w' : World} (hb : Below W.heap.size W w') : ∀ a v, W.cell? ⟨a, v.1, none⟩ = some v.2 → w'.cell? ⟨a, v.1, none⟩ = some (v : Nat × Value).2 := fun a v h => by
 have hlt : a < W.heap.size := by
  rcases Nat.lt_or_ge a W.heap.size with h1 | h1
  ·exact h1
  ·unfold World.cell? at h
   simp only [] at h
   rw [Array.getElem?_eq_none h1] at h
   cases h
 exact (hb.cell (p := ⟨a, v.1, none⟩) hlt).trans h
theorem Pp (w : World) : Ct 12 #[] (.bool true) w := by
 obtain ⟨X, hX⟩ : ∃ X : ByteArray, (⟨(bL [97, 43, 43, 43, 98]).toArray⟩ : ByteArray) = X := ⟨_, rfl⟩
 obtain ⟨Y, hY⟩ : ∃ Y : ByteArray, (⟨(bL [43, 43]).toArray⟩ : ByteArray) = Y := ⟨_, rfl⟩
 have CX := fun W => Ld ⟨#[97, 43, 43, 43, 98]⟩ W (by decide)
 have CY := fun W => Ld ⟨#[43, 43]⟩ W (by decide)
 rw [show wdL ⟨#[97, 43, 43, 43, 98]⟩ = [97, 43, 43, 43, 98] from rfl, hX] at CX
 rw [show wdL ⟨#[43, 43]⟩ = [43, 43] from rfl, hY] at CY
 have hXs : X.size ≤ 4398046511104 := by rw [← hX]; decide
 have CA := fun W => Tc X W hXs
 rw [show us X = [97, 43, 43, 43, 98] by rw [← hX]; exact Zx (by decide), Ab4] at CA
 have CX := Lh CX
 have CY := Lh CY
 have CA := Lh CA
 have HY := Lh hY
 clear hX hY hXs
 go_enter Tryz.func12, Tryz.ntmps12
 go_wp2_with fail
 refine Bm (CX.out _) fun w1 b1 => ?_
 go_wp2_with fail
 refine (CA.out _).mono ?_
 rintro e w2 ⟨⟨v, rfl, ho⟩, b2⟩
 have hb := Lh (Aa b1 b2)
 rcases Sk ho with ⟨h, _⟩ | ⟨g, cap, rfl, hcap, hg1, hg2, hcell⟩
 ·cases h
 ·have c7 := hcell 7 (.int .i64 4) rfl
  have c8 := hcell 8 (.string Y) (by rw [← HY.out]; rfl)
  have c21 := hcell 21 (.int .i64 2) rfl
  have hcap5 : (5 : Nat) ≤ cap := hcap
  have CY2 : Hid (∀ W, Cp 42 #[.string ⟨#[43, 43]⟩] W fun e w' => e = .returned (.string Y) ∧ Below W.heap.size W w' ∧ (W.cell? ⟨g, 7, none⟩ = some (.int .i64 4) → w'.cell? ⟨g, 7, none⟩ = some (.int .i64 4)) ∧ (W.cell? ⟨g, 8, none⟩ = some (.string Y) → w'.cell? ⟨g, 8, none⟩ = some (.string Y)) ∧ (W.cell? ⟨g, 21, none⟩ = some (.int .i64 2) → w'.cell? ⟨g, 21, none⟩ = some (.int .i64 2))) := Lh (fun W => (CY.out W).mono fun e w' ⟨he, hb⟩ => ⟨he, hb, At hb g (7, _), At hb g (8, _), At hb g (21, _)⟩)
  clear b1 b2 ho hcell hcap hg1 hg2
  rw [show awT.length = 5 from rfl]
  go_wp2
  go_region_held3 (fun w' => w'.cell? ⟨g, 7, none⟩ = some (.int .i64 4) ∧ w'.cell? ⟨g, 8, none⟩ = some (.string Y) ∧ w'.cell? ⟨g, 21, none⟩ = some (.int .i64 2)) (go_keep) ((go_at_call 42; refine (CY2.out _).mono ?_; rintro e w3 ⟨rfl, b3, k1, k2, k3⟩; have q1 := k1 c7; have q2 := k2 c8; have q3 := k3 c21))
  all_goals
   have hb3 := Lh (Aa (Ac hb.out 1) b3)
   clear b3 q1 q2 q3 k1 k2 k3 c7 c8 c21
   go_wp2
   go_ret
   exact ⟨rfl, by simpa using hb3.out⟩

end
section
theorem Pg {j : Nat} {T : ByteArray} (h : mrkS[j]? = some T) : marksL.drop j = wdL T :: marksL.drop (j + 1) := by
 have h1 : marksL[j]? = some (wdL T) := by rw [← Aio, List.getElem?_map, h]; rfl
 have h2 : j < marksL.length := by
  rcases Nat.lt_or_ge j marksL.length with h3 | h3
  ·exact h3
  ·rw [List.getElem?_eq_none h3] at h1; cases h1
 rw [List.drop_eq_getElem_cons h2]
 congr 1
 rw [List.getElem?_eq_getElem h2] at h1
 exact Option.some.inj h1
theorem Ho (W : World) {B g : Nat} (h : B < g) (i j : Nat) (v : Value) : (W.setCell ⟨B, i, none⟩ v).cell? ⟨g, j, none⟩ = W.cell? ⟨g, j, none⟩ := by
 unfold World.cell?
 rw [heap_setCell_other W ⟨B, i, none⟩ g v (by show g ≠ B; omega)]
theorem Y0 (W : World) (B : Nat) (h : W.heap[B]? = some (.cells #[.int .i64 0, .string ⟨#[]⟩, .float .f64 0, .bool false, .bool false, .int .i64 0, .int .i64 0] 24 (0, 0))) (v0 v1 v2 v3 v4 v5 v6 : Value) :
  (((((((W.setCell ⟨B, 0, none⟩ v0).setCell ⟨B, 1, none⟩ v1).setCell ⟨B, 2, none⟩ v2).setCell ⟨B, 3, none⟩ v3).setCell ⟨B, 4, none⟩ v4).setCell ⟨B, 5, none⟩ v5).setCell ⟨B, 6, none⟩ v6).heap[B]? = some (.cells #[v0, v1, v2, v3, v4, v5, v6] 24 (0, 0)) := by
 have h0 := heap_setCell_same W B 0 _ _ v0 h
 have h1 := heap_setCell_same _ B 1 _ _ v1 h0
 have h2 := heap_setCell_same _ B 2 _ _ v2 h1
 have h3 := heap_setCell_same _ B 3 _ _ v3 h2
 have h4 := heap_setCell_same _ B 4 _ _ v4 h3
 have h5 := heap_setCell_same _ B 5 _ _ v5 h4
 have h6 := heap_setCell_same _ B 6 _ _ v6 h5
 exact h6
theorem In {A W : World} {B : Nat} (h : Below B A W) (v0 v1 v2 v3 v4 v5 v6 : Value) :
  Below B A (((((((W.setCell ⟨B, 0, none⟩ v0).setCell ⟨B, 1, none⟩ v1).setCell ⟨B, 2, none⟩ v2).setCell ⟨B, 3, none⟩ v3).setCell ⟨B, 4, none⟩ v4).setCell ⟨B, 5, none⟩ v5).setCell ⟨B, 6, none⟩ v6) :=
 ((((((h.setCell (Nat.le_refl _) _).setCell (Nat.le_refl _) _).setCell (Nat.le_refl _) _).setCell (Nat.le_refl _) _).setCell (Nat.le_refl _) _).setCell (Nat.le_refl _) _).setCell (Nat.le_refl _) _
theorem Akl {w : World} {B : Nat} (h : w.heap[B]? = some (.cells #[.int .i64 0, .string ⟨#[]⟩, .float .f64 0, .bool false, .bool false, .int .i64 0, .int .i64 0] 24 (0, 0))) :
  (w.cell? ⟨B, 0, none⟩ = some (.int .i64 0) ∧ w.cell? ⟨B, 1, none⟩ = some (.string ⟨#[]⟩) ∧ w.cell? ⟨B, 2, none⟩ = some (.float .f64 0) ∧ w.cell? ⟨B, 3, none⟩ = some (.bool false) ∧ w.cell? ⟨B, 4, none⟩ = some (.bool false) ∧ w.cell? ⟨B, 5, none⟩ = some (.int .i64 0) ∧ w.cell? ⟨B, 6, none⟩ = some (.int .i64 0)) ∧ (w.frozen? ⟨B, 0, none⟩ = false ∧ w.frozen? ⟨B, 1, none⟩ = false ∧ w.frozen? ⟨B, 2, none⟩ = false ∧ w.frozen? ⟨B, 3, none⟩ = false ∧ w.frozen? ⟨B, 4, none⟩ = false ∧ w.frozen? ⟨B, 5, none⟩ = false ∧ w.frozen? ⟨B, 6, none⟩ = false) := by
 refine ⟨⟨?_, ?_, ?_, ?_, ?_, ?_, ?_⟩, ?_, ?_, ?_, ?_, ?_, ?_, ?_⟩ <;> simp [World.cell?, World.frozen?, h]
theorem Tt (s : ByteArray) (k c : Nat) (w : World) (hs : s.size ≤ 4398046511104) (hk : k < ln s) (hc : hd0 ((us s).drop k) = c) (hst : stN c = false) (h92 : c ≠ 92) (hdg : (Ah c || (c == 46 && Ah (hd0 ((us s).drop (k + 1))))) = false) (h34 : c ≠ 34) (h39 : c ≠ 39) :
  Cp 40 #[.string s, .int .i64 k] w fun e w' => TkZ k ((Eh ((us s).drop k)).map fun t => (4, t, 0, false, t.length)) e ∧ Below w.heap.size w w' := by
 have hs63 : s.size ≤ maxLen := by unfold maxLen; omega
 have hln := Ap s
 have hzc : zU ((us s).drop k) = c := by
  rcases hd : (us s).drop k with _ | ⟨a, r⟩
  ·exfalso; rw [List.drop_eq_nil_iff, Ab] at hd; omega
  ·rw [hd] at hc; exact hc
 have C0 := fun W => Ce s k W hs63
 rw [hzc] at C0
 have C0 := Lh C0
 rw [Bool.or_eq_false_iff] at hdg
 obtain ⟨hdg1, hdg2⟩ := hdg
 have CT := fun W => Du (c : Int) W
 rw [show stB (c : Int) = false from hst] at CT
 have CT := Lh CT
 have CD := fun W => Bn c W
 rw [hdg1] at CD
 have CD := Lh CD
 have g92 : ((c : Int) == 92) = false := by rw [beq_eq_false_iff_ne]; omega
 have g34 : ((c : Int) == 34) = false := by rw [beq_eq_false_iff_ne]; omega
 have g39 : ((c : Int) == 39) = false := by rw [beq_eq_false_iff_ne]; omega
 have CI := Lh (fun (T : ByteArray) (hT : T.size ≤ 8) W => Ib s T k W (by omega) (by omega) hT)
 have CW := Lh (fun (T : ByteArray) (hT : T.size ≤ 8) W => Ld T W (by omega))
 have CM := Lh (fun W => Wa W)
 obtain ⟨L, hL⟩ : ∃ L, (us s).drop k = L := ⟨_, rfl⟩
 rw [hL] at CI ⊢
 obtain ⟨R, hR⟩ : ∃ R, Eh L = R := ⟨_, rfl⟩
 have HR : Hid ((marksL.drop 0).find? (fun t => t.isPrefixOf L) = R) := Lh hR
 rw [hR]
 have T0 := Lh (TB.start w)
 have hkl : (k : Int) ≤ 2199023255552 := by omega
 have CN := fun W => Ce s (k + 1) W hs63
 have hzd := Jl ((us s).drop (k + 1))
 obtain ⟨u, hu1⟩ : ∃ u, zU ((us s).drop (k + 1)) = u := ⟨_, rfl⟩
 rw [hu1] at CN hzd
 have CN := Lh (show ∀ W, Cp 45 #[.string s, .int .i64 ((k : Int) + 1)] W fun e w' => e = .returned (.int .u16 (u : Nat)) ∧ ∃ n, w' = W.drewN n from CN)
 have CO := fun W => Bn u W
 have hmx : ∀ (j : Nat) (T : ByteArray), mrkS[j]? = some T → T.size ≤ 8 := fun j T h => Ab1 T (List.mem_of_getElem? h)
 have HMX := Lh hmx
 clear hs hs63 hln hk hc hzc hu1 hst h92 h34 h39 hL hR hmx hdg1
 by_cases h46 : c = 46
 ·subst h46
  rw [hzd, show Ah (hd0 ((us s).drop (k + 1))) = false by simpa using hdg2] at CO
  have CO := Lh CO
  clear hzd hdg2
  go_enter Tryz.func40, Tryz.ntmps40
  go_wp2_with fail
  refine Dm (C0.out _) fun n7 => ?_
  go_wp2_with fail
  refine Sm (CT.out _) ?_
  go_wp2_with fail
  refine Sm (CD.out _) ?_
  go_wp2_with fail
  refine Dm (CN.out _) fun n8 => ?_
  go_wp2_with fail
  refine Sm (CO.out _) ?_
  go_wp2_with fail
  refine (CM.out _).mono ?_
  rintro e w1 ⟨rfl, HC, hgw, b1⟩
  have T1 := Lh ((T0.out.draw (n7 + n8)).step b1)
  obtain ⟨g, hg⟩ : ∃ g, ((w.alloc (.cells #[.int .i64 0, .string ⟨#[]⟩, .float .f64 0, .bool false, .bool false, .int .i64 0, .int .i64 0] 24)).drewN (n7 + n8)).heap.size = g := ⟨_, rfl⟩
  rw [hg] at HC hgw ⊢
  have hgs : w.heap.size < g := by rw [← hg]; simp
  have HC := Lh HC
  clear b1 hg
  go_wp2
  go_loopw [21] (fun kv wr => ∃ j : Nat, kv = .int .i64 j ∧ j ≤ 48 ∧ Hid ((marksL.drop j).find? (fun t => t.isPrefixOf L) = R) ∧ ∃ m, wr = w1.drewN m) (fun kv _ => 48 - (intOf kv).toNat)
  case atStart => exact ⟨0, by go_num, by omega, HR, 0, rfl⟩
  case round =>
   obtain ⟨j, rfl, hj, HJ, n0, rfl⟩ := hrel
   have hjl : (j : Int) ≤ 48 := by omega
   rcases Nat.lt_or_ge j 48 with hlt | hge
   ·have t1 : (j : Int) < 48 := by omega
    obtain ⟨T, hT⟩ : ∃ T, mrkS[j]? = some T := ⟨_, List.getElem?_eq_getElem (by rw [S7]; exact hlt)⟩
    have hT8 := HMX.out j T hT
    have hc0 : (w1.drewN n0).cell? ⟨g, j, none⟩ = some (.string T) := HC.out j T hT
    have hd := Pg hT
    have CI2 := fun W => CI.out T hT8 W
    have CW2 := fun W => CW.out T hT8 W
    have hj2 := HJ.out
    rw [hd, List.find?_cons] at hj2
    cases hp : (wdL T).isPrefixOf L
    ·rw [hp] at CI2 hj2
     have CI2 := Lh CI2
     have HJ2 : Hid ((marksL.drop (j + 1)).find? (fun t => t.isPrefixOf L) = R) := Lh hj2
     clear hj2 hd hp CW2 hT
     go_wp2_with fail
     refine (CI2.out _).mono ?_
     rintro e w2 ⟨rfl, n2, rfl⟩
     go_wp2
     go_roundw
     case rel => exact ⟨j + 1, by go_num, hlt, HJ2, n0 + n2, by first | rfl | simp⟩
     case measure => simp [intOf]; omega
    ·rw [hp] at CI2 hj2
     have CI2 := Lh CI2
     obtain rfl : R = some (wdL T) := hj2.symm
     obtain ⟨Y, hY⟩ : ∃ Y : ByteArray, (⟨(bL (wdL T)).toArray⟩ : ByteArray) = Y := ⟨_, rfl⟩
     rw [hY] at CW2
     have hT63 : (T.size : Int) ≤ 8 := by omega
     have HE := Lh (show ∀ e, e = Ending.returned (.tuple #[.agg #[.int .i64 4, .string Y, .float .f64 0, .bool false, .bool false, .int .i64 (k : Int), .int .i64 ((k : Int) + (T.size : Int))], .bool true]) → TkZ k ((some (wdL T)).map fun t => (4, t, 0, false, t.length)) e from by
      intro e he
      rw [he]
      show _ = Ending.returned (.tuple #[tkV 4 ⟨(bL (wdL T)).toArray⟩ 0 false false k (k + (wdL T).length), .bool true])
      rw [hY, En]
      rfl)
     clear hj2 hd hp hT HJ hY HR
     have CW3 : Hid (∀ W, Cp 42 #[.string T] W fun e w' => e = .returned (.string Y) ∧ Below W.heap.size W w' ∧ (W.cell? ⟨g, j, none⟩ = some (.string T) → w'.cell? ⟨g, j, none⟩ = some (.string T)) ∧ (W.heap[w.heap.size]? = some (.cells #[.int .i64 0, .string ⟨#[]⟩, .float .f64 0, .bool false, .bool false, .int .i64 0, .int .i64 0] 24 (0, 0)) → w'.heap[w.heap.size]? = some (.cells #[.int .i64 0, .string ⟨#[]⟩, .float .f64 0, .bool false, .bool false, .int .i64 0, .int .i64 0] 24 (0, 0)))) := Lh (fun W => (CW2 W).mono fun e w' ⟨he, hb⟩ => ⟨he, hb, At hb g (j, _), fun h => (hb.block _ (Array.getElem?_eq_some_iff.1 h).1).trans h⟩)
     clear CW2 CW
     go_wp2_with fail
     refine (CI2.out _).mono ?_
     rintro e w2 ⟨rfl, n2, rfl⟩
     have hc1 : w1.cell? ⟨g, j, none⟩ = some (.string T) := hc0
     have hB4 : w1.heap[w.heap.size]? = some (.cells #[.int .i64 0, .string ⟨#[]⟩, .float .f64 0, .bool false, .bool false, .int .i64 0, .int .i64 0] 24 (0, 0)) := T1.out.bl
     go_wp2
     have HKO : ∀ (W : World) (i : Nat) (v : Value), (W.setCell ⟨w.heap.size, i, none⟩ v).cell? ⟨g, j, none⟩ = W.cell? ⟨g, j, none⟩ := fun W i v => Ho W (by omega) i j v
     have hwr : IntKind.i64.wrap ((k : Int) + (T.size : Int)) = (k : Int) + (T.size : Int) := IntWalk.i64_in _ (by omega)
     have hg0 : 0 ≤ (k : Int) + (T.size : Int) := by omega
     have hsf : ∀ (a : Addr) (x : Nat) (W : World), (store a (.float .f64 x)).run Tryz.prog W = stored Tryz.prog W a (.float .f64 x) .plain := fun a x W => run_store _ W a _ _ rfl
     go_region_held3 (fun w' => w'.cell? ⟨g, j, none⟩ = some (.string T)) (go_keep) ((go_at_call 42; refine (CW3.out _).mono ?_; rintro e w3 ⟨rfl, b3, k1, k2⟩; have q1 := k1 hc1; have q2 := k2 hB4; obtain ⟨⟨s0, s1, s2, s3, s4, s5, s6⟩, f0, f1, f2, f3, f4, f5, f6⟩ := Akl q2))
     all_goals
      have HQ := Lh q2
      have HB3 := Lh (Aa (Ac T1.out.bw (n0 + n2 + 1)) b3)
      clear q1 q2 k1 k2 b3 s0 s1 s2 s3 s4 s5 s6 f0 f1 f2 f3 f4 f5 f6 hc0 hc1 hB4 HKO hsf hwr
      go_wp2
      refine bodyPost_ret (Ek rfl _ _ _ _ _ rfl (run_loadVar_row _ w.heap.size 24 24 _ (0, 0) _ (Y0 _ _ HQ.out _ _ _ _ _ _ _) Tryz.underlying24 rfl (by first | kernel_rfl | rfl))) rfl ⟨?_, In HB3.out _ _ _ _ _ _ _⟩
      exact HE.out _ rfl
   ·obtain rfl : j = 48 := by omega
    obtain rfl : R = none := by
     rw [← HJ.out]
     rfl
    have T2 := T1.out.draw n0
    have HG := Lh T2.bl
    have HB := Lh T2.bw
    clear T2 HJ HR hge hjl
    go_wp2_with (refine tkS rfl rfl w.heap.size 0 ⟨#[]⟩ 0 false false 0 0 rfl rfl HG.out ?_)
    refine tkR rfl rfl HG.out rfl rfl ⟨?_, Ae HB.out (Nat.le_refl _) _⟩
    exact ⟨_, _, _, _, _, _, _, rfl⟩
 ·have g46 : ((c : Int) == 46) = false := by rw [beq_eq_false_iff_ne]; omega
  clear hzd hdg2 CO CN h46
  go_enter Tryz.func40, Tryz.ntmps40
  go_wp2_with fail
  refine Dm (C0.out _) fun n7 => ?_
  go_wp2_with fail
  refine Sm (CT.out _) ?_
  go_wp2_with fail
  refine Sm (CD.out _) ?_
  go_wp2_with fail
  refine (CM.out _).mono ?_
  rintro e w1 ⟨rfl, HC, hgw, b1⟩
  have T1 := Lh ((T0.out.draw (n7)).step b1)
  obtain ⟨g, hg⟩ : ∃ g, ((w.alloc (.cells #[.int .i64 0, .string ⟨#[]⟩, .float .f64 0, .bool false, .bool false, .int .i64 0, .int .i64 0] 24)).drewN (n7)).heap.size = g := ⟨_, rfl⟩
  rw [hg] at HC hgw ⊢
  have hgs : w.heap.size < g := by rw [← hg]; simp
  have HC := Lh HC
  clear b1 hg
  go_wp2
  go_loopw [21] (fun kv wr => ∃ j : Nat, kv = .int .i64 j ∧ j ≤ 48 ∧ Hid ((marksL.drop j).find? (fun t => t.isPrefixOf L) = R) ∧ ∃ m, wr = w1.drewN m) (fun kv _ => 48 - (intOf kv).toNat)
  case atStart => exact ⟨0, by go_num, by omega, HR, 0, rfl⟩
  case round =>
   obtain ⟨j, rfl, hj, HJ, n0, rfl⟩ := hrel
   have hjl : (j : Int) ≤ 48 := by omega
   rcases Nat.lt_or_ge j 48 with hlt | hge
   ·have t1 : (j : Int) < 48 := by omega
    obtain ⟨T, hT⟩ : ∃ T, mrkS[j]? = some T := ⟨_, List.getElem?_eq_getElem (by rw [S7]; exact hlt)⟩
    have hT8 := HMX.out j T hT
    have hc0 : (w1.drewN n0).cell? ⟨g, j, none⟩ = some (.string T) := HC.out j T hT
    have hd := Pg hT
    have CI2 := fun W => CI.out T hT8 W
    have CW2 := fun W => CW.out T hT8 W
    have hj2 := HJ.out
    rw [hd, List.find?_cons] at hj2
    cases hp : (wdL T).isPrefixOf L
    ·rw [hp] at CI2 hj2
     have CI2 := Lh CI2
     have HJ2 : Hid ((marksL.drop (j + 1)).find? (fun t => t.isPrefixOf L) = R) := Lh hj2
     clear hj2 hd hp CW2 hT
     go_wp2_with fail
     refine (CI2.out _).mono ?_
     rintro e w2 ⟨rfl, n2, rfl⟩
     go_wp2
     go_roundw
     case rel => exact ⟨j + 1, by go_num, hlt, HJ2, n0 + n2, by first | rfl | simp⟩
     case measure => simp [intOf]; omega
    ·rw [hp] at CI2 hj2
     have CI2 := Lh CI2
     obtain rfl : R = some (wdL T) := hj2.symm
     obtain ⟨Y, hY⟩ : ∃ Y : ByteArray, (⟨(bL (wdL T)).toArray⟩ : ByteArray) = Y := ⟨_, rfl⟩
     rw [hY] at CW2
     have hT63 : (T.size : Int) ≤ 8 := by omega
     have HE := Lh (show ∀ e, e = Ending.returned (.tuple #[.agg #[.int .i64 4, .string Y, .float .f64 0, .bool false, .bool false, .int .i64 (k : Int), .int .i64 ((k : Int) + (T.size : Int))], .bool true]) → TkZ k ((some (wdL T)).map fun t => (4, t, 0, false, t.length)) e from by
      intro e he
      rw [he]
      show _ = Ending.returned (.tuple #[tkV 4 ⟨(bL (wdL T)).toArray⟩ 0 false false k (k + (wdL T).length), .bool true])
      rw [hY, En]
      rfl)
     clear hj2 hd hp hT HJ hY HR
     have CW3 : Hid (∀ W, Cp 42 #[.string T] W fun e w' => e = .returned (.string Y) ∧ Below W.heap.size W w' ∧ (W.cell? ⟨g, j, none⟩ = some (.string T) → w'.cell? ⟨g, j, none⟩ = some (.string T)) ∧ (W.heap[w.heap.size]? = some (.cells #[.int .i64 0, .string ⟨#[]⟩, .float .f64 0, .bool false, .bool false, .int .i64 0, .int .i64 0] 24 (0, 0)) → w'.heap[w.heap.size]? = some (.cells #[.int .i64 0, .string ⟨#[]⟩, .float .f64 0, .bool false, .bool false, .int .i64 0, .int .i64 0] 24 (0, 0)))) := Lh (fun W => (CW2 W).mono fun e w' ⟨he, hb⟩ => ⟨he, hb, At hb g (j, _), fun h => (hb.block _ (Array.getElem?_eq_some_iff.1 h).1).trans h⟩)
     clear CW2 CW
     go_wp2_with fail
     refine (CI2.out _).mono ?_
     rintro e w2 ⟨rfl, n2, rfl⟩
     have hc1 : w1.cell? ⟨g, j, none⟩ = some (.string T) := hc0
     have hB4 : w1.heap[w.heap.size]? = some (.cells #[.int .i64 0, .string ⟨#[]⟩, .float .f64 0, .bool false, .bool false, .int .i64 0, .int .i64 0] 24 (0, 0)) := T1.out.bl
     go_wp2
     have HKO : ∀ (W : World) (i : Nat) (v : Value), (W.setCell ⟨w.heap.size, i, none⟩ v).cell? ⟨g, j, none⟩ = W.cell? ⟨g, j, none⟩ := fun W i v => Ho W (by omega) i j v
     have hwr : IntKind.i64.wrap ((k : Int) + (T.size : Int)) = (k : Int) + (T.size : Int) := IntWalk.i64_in _ (by omega)
     have hg0 : 0 ≤ (k : Int) + (T.size : Int) := by omega
     have hsf : ∀ (a : Addr) (x : Nat) (W : World), (store a (.float .f64 x)).run Tryz.prog W = stored Tryz.prog W a (.float .f64 x) .plain := fun a x W => run_store _ W a _ _ rfl
     go_region_held3 (fun w' => w'.cell? ⟨g, j, none⟩ = some (.string T)) (go_keep) ((go_at_call 42; refine (CW3.out _).mono ?_; rintro e w3 ⟨rfl, b3, k1, k2⟩; have q1 := k1 hc1; have q2 := k2 hB4; obtain ⟨⟨s0, s1, s2, s3, s4, s5, s6⟩, f0, f1, f2, f3, f4, f5, f6⟩ := Akl q2))
     all_goals
      have HQ := Lh q2
      have HB3 := Lh (Aa (Ac T1.out.bw (n0 + n2 + 1)) b3)
      clear q1 q2 k1 k2 b3 s0 s1 s2 s3 s4 s5 s6 f0 f1 f2 f3 f4 f5 f6 hc0 hc1 hB4 HKO hsf hwr
      go_wp2
      refine bodyPost_ret (Ek rfl _ _ _ _ _ rfl (run_loadVar_row _ w.heap.size 24 24 _ (0, 0) _ (Y0 _ _ HQ.out _ _ _ _ _ _ _) Tryz.underlying24 rfl (by first | kernel_rfl | rfl))) rfl ⟨?_, In HB3.out _ _ _ _ _ _ _⟩
      exact HE.out _ rfl
   ·obtain rfl : j = 48 := by omega
    obtain rfl : R = none := by
     rw [← HJ.out]
     rfl
    have T2 := T1.out.draw n0
    have HG := Lh T2.bl
    have HB := Lh T2.bw
    clear T2 HJ HR hge hjl
    go_wp2_with (refine tkS rfl rfl w.heap.size 0 ⟨#[]⟩ 0 false false 0 0 rfl rfl HG.out ?_)
    refine tkR rfl rfl HG.out rfl rfl ⟨?_, Ae HB.out (Nat.le_refl _) _⟩
    exact ⟨_, _, _, _, _, _, _, rfl⟩

end
section
theorem V9 (s : ByteArray) (k : Nat) (w : World) (hs : s.size ≤ 4398046511104) (hk : k < ln s) :
  Cp 40 #[.string s, .int .i64 k] w fun e w' => TkZ k (Dn ((us s).drop k)) e ∧ Below w.heap.size w w' := by
 obtain ⟨c, h1, h2⟩ := Bw (L := us s) (k := k) (by rw [Ab]; exact hk)
 have hr : Dn ((us s).drop k) =
   if (stN c || c == 92) = true then (Nj ((us s).drop k)).map fun p => (if Il p.1 = true then 3 else 2, p.1, 0, p.2.1, p.2.2)
   else if (c == 34 || c == 39) = true then (Fa c ((us s).drop (k + 1))).map fun p => (6, p.1, 0, false, 1 + p.2)
   else if (Ah c || (c == 46 && Ah (hd0 ((us s).drop (k + 1))))) = true then (N8 ((us s).drop k)).map fun p => (5, [], p.1, false, p.2)
   else (Eh ((us s).drop k)).map fun t => (4, t, 0, false, t.length) := by
  rw [h1]; rfl
 rw [hr]
 by_cases e1 : (stN c || c == 92) = true
 ·rw [if_pos e1]; exact Vl s k c w hs hk h2 e1
 ·rw [if_neg e1]
  by_cases e2 : (c == 34 || c == 39) = true
  ·rw [if_pos e2]; exact Ww s k c w hs hk h2 (by simpa using e2)
  ·rw [if_neg e2]
   by_cases e3 : (Ah c || (c == 46 && Ah (hd0 ((us s).drop (k + 1))))) = true
   ·rw [if_pos e3]; exact V0 s k c w hs hk h2 e3
   ·rw [if_neg e3]
    rw [Bool.not_eq_true, Bool.or_eq_false_iff] at e1 e2
    exact Tt s k c w hs hk h2 e1.1 (by simpa using e1.2) (by simpa using e3) (by simpa using e2.1) (by simpa using e2.2)
theorem Wk {l t : List Nat} {kd x n : Nat} {es : Bool} (h : Dn l = some (kd, t, x, es, n)) (hc : hd0 l = 47) : kd = 4 := by
 cases l with
 | nil => cases hc
 | cons c r =>
  obtain rfl : c = 47 := hc
  rw [Dn, if_neg (by decide +kernel), if_neg (by decide), if_neg (by
   rw [show Ah 47 = false by decide]; simp)] at h
  cases hm : Eh (47 :: r) with
  | none => rw [hm] at h; cases h
  | some t => rw [hm] at h; cases h; rfl
theorem Ml (w : World) (v0 v1 v2 v3 v4 v5 v6 : Value) : ∃ W, w.alloc (.cells #[v0, v1, v2, v3, v4, v5, v6] 24) = W ∧
  (W.cell? ⟨w.heap.size, 0, none⟩ = some v0 ∧ W.cell? ⟨w.heap.size, 1, none⟩ = some v1 ∧ W.cell? ⟨w.heap.size, 2, none⟩ = some v2 ∧ W.cell? ⟨w.heap.size, 3, none⟩ = some v3 ∧ W.cell? ⟨w.heap.size, 4, none⟩ = some v4 ∧ W.cell? ⟨w.heap.size, 5, none⟩ = some v5 ∧ W.cell? ⟨w.heap.size, 6, none⟩ = some v6) ∧ W.frozen? ⟨w.heap.size, 4, none⟩ = false ∧ W.heap.size = w.heap.size + 1 ∧ Below w.heap.size w W := by
 have h := heap_alloc_last w (.cells #[v0, v1, v2, v3, v4, v5, v6] 24)
 refine ⟨_, rfl, ⟨?_, ?_, ?_, ?_, ?_, ?_, ?_⟩, ?_, by simp, (Below.refl _ _).alloc (Nat.le_refl _) _⟩
 all_goals
  first | unfold World.cell? | unfold World.frozen?
  simp only []
  rw [h]
  rfl
theorem Aft (s : ByteArray) (k p : Nat) (nl : Bool) (kd fi : Int) (tx : ByteArray) (xx : Nat) (es : Bool) (w : World) (_hpI : (p : Int) ≤ 1099511627776) (t1 : (p : Int) < (ln s : Int)) (_t2 : decide ((ln s : Int) ≤ (p : Int)) = false) (hgt : decide (ln s < k) = false) (_hk0 : (k : Int) ≤ (ln s : Int)) (T0 : Hid (TB w (w.alloc (.cells #[.int .i64 0, .string ⟨#[]⟩, .float .f64 0, .bool false, .bool false, .int .i64 0, .int .i64 0] 24))))
  (CL : Hid (∀ W, Cq 38 #[.string s] (.int .i64 (ln s : Nat)) W))
  (CK : Hid (∀ W, Cp 39 #[.string s, .int .i64 k] W fun e w' => e = .returned (.tuple #[.int .i64 (p : Nat), .bool nl, .bool true]) ∧ ∃ n, w' = W.drewN n))
  (CT : Hid (∀ W, Ct 40 #[.string s, .int .i64 (p : Nat)] (.tuple #[.agg #[.int .i64 kd, .string tx, .float .f64 xx, .bool es, .bool false, .int .i64 (p : Nat), .int .i64 fi], .bool true]) W)) :
  Ct 10 #[.string s, .int .i64 k, .bool false] (.tuple #[.agg #[.int .i64 kd, .string tx, .float .f64 xx, .bool es, .bool nl, .int .i64 (p : Nat), .int .i64 fi], .int .i64 0, .int .i64 0]) w := by
 go_enter Tryz.func10, Tryz.ntmps10
 go_wp2_with fail
 refine Sm (CL.out _) ?_
 go_wp2_with fail
 refine Dm (CK.out _) fun n1 => ?_
 go_wp2_with fail
 refine Sm (CL.out _) ?_
 go_wp2_with fail
 refine Bm (CT.out _) fun w1 b1 => ?_
 have T1 := ((T0.out.draw (n1)).step b1).step ((Below.refl _ _).alloc (Nat.le_refl _) (.cells #[.int .i64 kd, .string tx, .float .f64 xx, .bool es, .bool nl, .int .i64 (p : Nat), .int .i64 fi] 24))
 have HG := Lh T1.bl
 have HB := Lh T1.bw
 clear T1 b1
 go_wp2_with (first | (refine tkS rfl rfl w1.heap.size kd tx xx es false (p : Nat) fi rfl rfl (heap_alloc_last w1 _) ?_; rw [World.setRow_alloc_new]) | (refine tkS rfl rfl w.heap.size kd tx xx es nl (p : Nat) fi rfl rfl HG.out ?_))
 refine Hw rfl rfl HG.out rfl rfl ⟨?_, Ae HB.out (Nat.le_refl _) _⟩
 rfl
theorem Ag4 (s : ByteArray) (k p : Nat) (nl : Bool) (kd fi : Int) (tx : ByteArray) (xx : Nat) (es : Bool) (w : World) (_hpI : (p : Int) ≤ 1099511627776) (t1 : (p : Int) < (ln s : Int)) (_t2 : decide ((ln s : Int) ≤ (p : Int)) = false) (hgt : decide (ln s < k) = false) (_hk0 : (k : Int) ≤ (ln s : Int)) (T0 : Hid (TB w (w.alloc (.cells #[.int .i64 0, .string ⟨#[]⟩, .float .f64 0, .bool false, .bool false, .int .i64 0, .int .i64 0] 24))))
  (CL : Hid (∀ W, Cq 38 #[.string s] (.int .i64 (ln s : Nat)) W))
  (CK : Hid (∀ W, Cp 39 #[.string s, .int .i64 k] W fun e w' => e = .returned (.tuple #[.int .i64 (p : Nat), .bool nl, .bool true]) ∧ ∃ n, w' = W.drewN n))
  (CT : Hid (∀ W, Ct 40 #[.string s, .int .i64 (p : Nat)] (.tuple #[.agg #[.int .i64 kd, .string tx, .float .f64 xx, .bool es, .bool false, .int .i64 (p : Nat), .int .i64 fi], .bool true]) W)) (g1 : (kd == 4) = false) :
  Ct 10 #[.string s, .int .i64 k, .bool true] (.tuple #[.agg #[.int .i64 kd, .string tx, .float .f64 xx, .bool es, .bool nl, .int .i64 (p : Nat), .int .i64 fi], .int .i64 0, .int .i64 0]) w := by
 go_enter Tryz.func10, Tryz.ntmps10
 go_wp2_with fail
 refine Sm (CL.out _) ?_
 go_wp2_with fail
 refine Dm (CK.out _) fun n1 => ?_
 go_wp2_with fail
 refine Sm (CL.out _) ?_
 go_wp2_with fail
 refine Bm (CT.out _) fun w1 b1 => ?_
 have T1 := ((T0.out.draw (n1)).step b1).step ((Below.refl _ _).alloc (Nat.le_refl _) (.cells #[.int .i64 kd, .string tx, .float .f64 xx, .bool es, .bool nl, .int .i64 (p : Nat), .int .i64 fi] 24))
 have HG := Lh T1.bl
 have HB := Lh T1.bw
 clear T1 b1
 go_wp2_with (first | (refine tkS rfl rfl w1.heap.size kd tx xx es false (p : Nat) fi rfl rfl (heap_alloc_last w1 _) ?_; rw [World.setRow_alloc_new]) | (refine tkS rfl rfl w.heap.size kd tx xx es nl (p : Nat) fi rfl rfl HG.out ?_))
 refine Hw rfl rfl HG.out rfl rfl ⟨?_, Ae HB.out (Nat.le_refl _) _⟩
 rfl
theorem Afx (s : ByteArray) (k p : Nat) (nl : Bool) (fi : Int) (tx : ByteArray) (xx : Nat) (es : Bool) (w : World) (_hpI : (p : Int) ≤ 1099511627776) (t1 : (p : Int) < (ln s : Int)) (_t2 : decide ((ln s : Int) ≤ (p : Int)) = false) (hgt : decide (ln s < k) = false) (_hk0 : (k : Int) ≤ (ln s : Int)) (T0 : Hid (TB w (w.alloc (.cells #[.int .i64 0, .string ⟨#[]⟩, .float .f64 0, .bool false, .bool false, .int .i64 0, .int .i64 0] 24))))
  (CL : Hid (∀ W, Cq 38 #[.string s] (.int .i64 (ln s : Nat)) W))
  (CK : Hid (∀ W, Cp 39 #[.string s, .int .i64 k] W fun e w' => e = .returned (.tuple #[.int .i64 (p : Nat), .bool nl, .bool true]) ∧ ∃ n, w' = W.drewN n))
  (CT : Hid (∀ W, Ct 40 #[.string s, .int .i64 (p : Nat)] (.tuple #[.agg #[.int .i64 4, .string tx, .float .f64 xx, .bool es, .bool false, .int .i64 (p : Nat), .int .i64 fi], .bool true]) W))
  (CI : Hid (∀ W, Cp 41 #[.string s, .int .i64 (p : Nat), .string ⟨#[47]⟩] W fun e w' => e = .returned (.bool true) ∧ ∃ n, w' = W.drewN n)) :
  Ct 10 #[.string s, .int .i64 k, .bool true] (.tuple #[.agg #[.int .i64 0, .string ⟨#[]⟩, .float .f64 0, .bool false, .bool false, .int .i64 0, .int .i64 0], .int .i64 (p : Nat), .int .i64 60]) w := by
 go_enter Tryz.func10, Tryz.ntmps10
 go_wp2_with fail
 refine Sm (CL.out _) ?_
 go_wp2_with fail
 refine Dm (CK.out _) fun n1 => ?_
 go_wp2_with fail
 refine Sm (CL.out _) ?_
 go_wp2_with fail
 refine Bm (CT.out _) fun w1 b1 => ?_
 go_wp2_with (refine tkS rfl rfl w1.heap.size 4 tx xx es false (p : Nat) fi rfl rfl (heap_alloc_last w1 _) ?_; rw [World.setRow_alloc_new])
 obtain ⟨W7, hW7, ⟨k0, k1, k2, k3, k4, k5, k6⟩, f4, hs7, bW7⟩ := Ml w1 (.int .i64 4) (.string tx) (.float .f64 xx) (.bool es) (.bool false) (.int .i64 (p : Nat)) (.int .i64 fi)
 rw [hW7]
 refine Dm (CI.out _) fun n3 => ?_
 have T1 := (((T0.out.draw (n1)).step b1).step bW7).draw n3
 have HG := Lh T1.bl
 have HB := Lh T1.bw
 clear T1 b1 bW7 hW7
 go_wp2_with (refine tkS rfl rfl w.heap.size 0 ⟨#[]⟩ 0 false false 0 0 rfl rfl HG.out ?_)
 refine Hw rfl rfl HG.out rfl rfl ⟨?_, Ae HB.out (Nat.le_refl _) _⟩
 rfl
theorem Add (s : ByteArray) (k p : Nat) (nl : Bool) (fi : Int) (tx : ByteArray) (xx : Nat) (es : Bool) (w : World) (_hpI : (p : Int) ≤ 1099511627776) (t1 : (p : Int) < (ln s : Int)) (_t2 : decide ((ln s : Int) ≤ (p : Int)) = false) (hgt : decide (ln s < k) = false) (_hk0 : (k : Int) ≤ (ln s : Int)) (T0 : Hid (TB w (w.alloc (.cells #[.int .i64 0, .string ⟨#[]⟩, .float .f64 0, .bool false, .bool false, .int .i64 0, .int .i64 0] 24))))
  (CL : Hid (∀ W, Cq 38 #[.string s] (.int .i64 (ln s : Nat)) W))
  (CK : Hid (∀ W, Cp 39 #[.string s, .int .i64 k] W fun e w' => e = .returned (.tuple #[.int .i64 (p : Nat), .bool nl, .bool true]) ∧ ∃ n, w' = W.drewN n))
  (CT : Hid (∀ W, Ct 40 #[.string s, .int .i64 (p : Nat)] (.tuple #[.agg #[.int .i64 4, .string tx, .float .f64 xx, .bool es, .bool false, .int .i64 (p : Nat), .int .i64 fi], .bool true]) W))
  (CI : Hid (∀ W, Cp 41 #[.string s, .int .i64 (p : Nat), .string ⟨#[47]⟩] W fun e w' => e = .returned (.bool false) ∧ ∃ n, w' = W.drewN n)) :
  Ct 10 #[.string s, .int .i64 k, .bool true] (.tuple #[.agg #[.int .i64 4, .string tx, .float .f64 xx, .bool es, .bool nl, .int .i64 (p : Nat), .int .i64 fi], .int .i64 0, .int .i64 0]) w := by
 go_enter Tryz.func10, Tryz.ntmps10
 go_wp2_with fail
 refine Sm (CL.out _) ?_
 go_wp2_with fail
 refine Dm (CK.out _) fun n1 => ?_
 go_wp2_with fail
 refine Sm (CL.out _) ?_
 go_wp2_with fail
 refine Bm (CT.out _) fun w1 b1 => ?_
 go_wp2_with (refine tkS rfl rfl w1.heap.size 4 tx xx es false (p : Nat) fi rfl rfl (heap_alloc_last w1 _) ?_; rw [World.setRow_alloc_new])
 obtain ⟨W7, hW7, ⟨k0, k1, k2, k3, k4, k5, k6⟩, f4, hs7, bW7⟩ := Ml w1 (.int .i64 4) (.string tx) (.float .f64 xx) (.bool es) (.bool false) (.int .i64 (p : Nat)) (.int .i64 fi)
 rw [hW7]
 refine Dm (CI.out _) fun n3 => ?_
 have T2 := ((T0.out.draw (n1)).step b1)
 have hz := T2.sz
 have T1 := ((T2.step bW7).draw n3).base (show Below (w.heap.size + 1) (W7.drewN n3) ((W7.drewN n3).setCell ⟨w1.heap.size, 4, none⟩ (.bool nl)) from (Below.refl _ _).setCell hz _)
 have HG := Lh T1.bl
 have HB := Lh T1.bw
 clear T1 T2 b1 bW7 hW7
 go_wp2_with (refine tkS rfl rfl w.heap.size 4 tx xx es nl (p : Nat) fi rfl rfl HG.out ?_)
 refine Hw rfl rfl HG.out rfl rfl ⟨?_, Ae HB.out (Nat.le_refl _) _⟩
 rfl
theorem Pm (s : ByteArray) (k : Nat) (op : Bool) (w : World) (hs : s.size ≤ 1099511627776) (hk : k ≤ ln s) :
  Cp 10 #[.string s, .int .i64 k, .bool op] w fun e w' => e = NxE (Mv op k ((us s).drop k)) ∧ Below w.heap.size w w' := by
 have hs63 : s.size ≤ maxLen := by unfold maxLen; omega
 have hln := Ap s
 have CL := Lh (fun W => Cw s W hs63)
 have CK := fun W => Aew s k W hs hk
 have hgt : decide (ln s < k) = false := by simpa using hk
 have hk0 : (k : Int) ≤ (ln s : Int) := by omega
 rcases hsk : As ((us s).drop k) with ⟨n, nl, ok⟩
 have hnl : n ≤ ((us s).drop k).length := by have := Hk ((us s).drop k); rw [hsk] at this; exact this
 rw [List.length_drop, Ab] at hnl
 rw [hsk] at CK
 obtain ⟨p, hp⟩ : ∃ p, k + n = p := ⟨_, rfl⟩
 have hpl : p ≤ ln s := by omega
 have CT := fun (h : p < ln s) W => V9 s p W (by omega) h
 have CI := fun W => Ib s ⟨#[47]⟩ p W (by omega) (by omega) (by decide)
 rw [Dp (c := 47) (by omega) _ _ _ rfl] at CI
 have e1 : ((us s).drop k).drop n = (us s).drop p := by rw [List.drop_drop, hp]
 have hR : Mv op k ((us s).drop k) = if (ok = false) ∨ (op = true ∧ Go.Proofs.YtmimeejjaneedaaGreatDoor.hd0 ((us s).drop p) = 47) then (p, none)
   else match Dn ((us s).drop p) with
    | none => (p, none)
    | some (k, t, x, e, n) => (0, some ⟨k, t, x, e, nl, p, p + n⟩) := by
  unfold Mv
  rw [hsk]
  simp only [e1, hp]
  rfl
 rw [hR]
 have hsl : ∀ kd t x es n, Dn ((us s).drop p) = some (kd, t, x, es, n) → Go.Proofs.YtmimeejjaneedaaGreatDoor.hd0 ((us s).drop p) = 47 → kd = 4 := fun kd t x es n h1 h2 => Wk h1 h2
 have hemp : p = ln s → Dn ((us s).drop p) = some (1, [], 0, false, 0) ∧ Go.Proofs.YtmimeejjaneedaaGreatDoor.hd0 ((us s).drop p) = 0 := fun h => by
  rw [List.drop_eq_nil_iff.2 (by rw [Ab]; omega)]
  exact ⟨rfl, rfl⟩
 obtain ⟨c, hc⟩ : ∃ c, Go.Proofs.YtmimeejjaneedaaGreatDoor.hd0 ((us s).drop p) = c := ⟨_, rfl⟩
 rw [hc] at CI hsl hemp ⊢
 have T0 := Lh (TB.start w)
 obtain ⟨o, ho⟩ : ∃ o, Dn ((us s).drop p) = o := ⟨_, rfl⟩
 rw [ho] at CT hsl hemp ⊢
 have hpI : (p : Int) ≤ 1099511627776 := by omega
 clear hs63 hln hs hk hnl e1 hR hc ho
 cases ok
 ·rw [if_pos (.inl rfl)]
  have CK := Lh (show ∀ W, Cp 39 #[.string s, .int .i64 k] W fun e w' => (∃ x, e = .returned (.tuple #[.int .i64 (p : Nat), .bool x, .bool false])) ∧ ∃ n, w' = W.drewN n from fun W => (CK W).mono fun e w' ⟨he, hw⟩ => ⟨by
   rw [Gw, if_neg (by simp)] at he
   obtain ⟨x, he⟩ := he
   exact ⟨x, by rw [he, ← hp]⟩, hw⟩)
  clear CI CT hsl hemp hpl hp hsk
  go_enter Tryz.func10, Tryz.ntmps10
  go_wp2_with fail
  refine Sm (CL.out _) ?_
  go_wp2_with fail
  refine (CK.out _).mono ?_
  rintro e w' ⟨⟨x, rfl⟩, n1, rfl⟩
  have T1 := T0.out.draw n1
  have HG := Lh T1.bl
  have HB := Lh T1.bw
  clear T1
  go_wp2_with (refine tkS rfl rfl w.heap.size 0 ⟨#[]⟩ 0 false false 0 0 rfl rfl HG.out ?_)
  refine Hw rfl rfl HG.out rfl rfl ⟨?_, Ae HB.out (Nat.le_refl _) _⟩
  rfl
 have CK := Lh (show ∀ W, Cp 39 #[.string s, .int .i64 k] W fun e w' => e = .returned (.tuple #[.int .i64 (p : Nat), .bool nl, .bool true]) ∧ ∃ n, w' = W.drewN n from fun W => (CK W).mono fun e w' ⟨he, hw⟩ => ⟨by
  rw [Gw, if_pos rfl] at he
  rw [he, ← hp]
  simp, hw⟩)
 clear hp hsk
 rcases Nat.lt_or_ge p (ln s) with hlt | hge
 rotate_left 1
 ·obtain rfl : p = ln s := by omega
  obtain ⟨rfl, rfl⟩ := hemp rfl
  rw [if_neg (by simp)]
  have t1 : ¬ ((ln s : Nat) : Int) < ((ln s : Nat) : Int) := by omega
  clear CI CT hsl hemp hpl hge t1
  go_enter Tryz.func10, Tryz.ntmps10
  go_wp2_with fail
  refine Sm (CL.out _) ?_
  go_wp2_with fail
  refine Dm (CK.out _) fun n1 => ?_
  go_wp2_with fail
  refine Sm (CL.out _) ?_
  have T1 := T0.out.draw n1
  have HG := Lh T1.bl
  have HB := Lh T1.bw
  clear T1
  go_wp2_with (refine tkS rfl rfl w.heap.size 1 ⟨#[]⟩ 0 false nl ((ln s : Nat) : Int) ((ln s : Nat) : Int) rfl rfl HG.out ?_)
  refine Hw rfl rfl HG.out rfl rfl ⟨?_, Ae HB.out (Nat.le_refl _) _⟩
  rfl
 have t1 : (p : Int) < (ln s : Int) := by omega
 have t2 : decide ((ln s : Int) ≤ (p : Int)) = false := by simp; omega
 have CT := CT hlt
 clear hemp hpl hlt
 cases o with
 | none =>
  have hR2 : (if (true = false) ∨ (op = true ∧ c = 47) then ((p, none) : Nat × Option Tok) else (p, none)) = (p, none) := by split <;> rfl
  show Calls _ _ _ _ fun e w' => e = NxE (if (true = false) ∨ (op = true ∧ c = 47) then ((p, none) : Nat × Option Tok) else (p, none)) ∧ _
  rw [hR2]
  have CT := Lh (show ∀ W, Cp 40 #[.string s, .int .i64 (p : Nat)] W fun e w' => (∃ (kd : Int) (tx : ByteArray) (x : Nat) (es nl : Bool) (po fi : Int), e = .returned (.tuple #[.agg #[.int .i64 kd, .string tx, .float .f64 x, .bool es, .bool nl, .int .i64 po, .int .i64 fi], .bool false])) ∧ Below W.heap.size W w' from CT)
  clear CI hsl hR2
  go_enter Tryz.func10, Tryz.ntmps10
  go_wp2_with fail
  refine Sm (CL.out _) ?_
  go_wp2_with fail
  refine Dm (CK.out _) fun n1 => ?_
  go_wp2_with fail
  refine Sm (CL.out _) ?_
  go_wp2_with fail
  refine (CT.out _).mono ?_
  rintro e w1 ⟨⟨kd, tx, xx, es, nl2, po, fi, rfl⟩, b1⟩
  have T1 := ((T0.out.draw (n1)).step b1).step ((Below.refl _ _).alloc (Nat.le_refl _) (.cells #[.int .i64 kd, .string tx, .float .f64 xx, .bool es, .bool nl2, .int .i64 po, .int .i64 fi] 24))
  have HG := Lh T1.bl
  have HB := Lh T1.bw
  clear T1 b1
  go_wp2_with (first | (refine tkS rfl rfl w1.heap.size kd tx xx es nl2 po fi rfl rfl (heap_alloc_last w1 _) ?_; rw [World.setRow_alloc_new]) | (refine tkS rfl rfl w.heap.size 0 ⟨#[]⟩ 0 false false 0 0 rfl rfl HG.out ?_))
  refine Hw rfl rfl HG.out rfl rfl ⟨?_, Ae HB.out (Nat.le_refl _) _⟩
  rfl
 | some q =>
  obtain ⟨kd0, t0, xx, es, n0⟩ := q
  have hsl := hsl kd0 t0 xx es n0 rfl
  have CT := Lh (show ∀ W, Cp 40 #[.string s, .int .i64 (p : Nat)] W fun e w' => e = .returned (.tuple #[.agg #[.int .i64 ((kd0 : Nat) : Int), .string ⟨(bL t0).toArray⟩, .float .f64 xx, .bool es, .bool false, .int .i64 (p : Nat), .int .i64 ((p + n0 : Nat) : Int)], .bool true]) ∧ Below W.heap.size W w' from CT)
  have HE : Hid (NxE (0, some ⟨kd0, t0, xx, es, nl, p, p + n0⟩) = .returned (.tuple #[.agg #[.int .i64 ((kd0 : Nat) : Int), .string ⟨(bL t0).toArray⟩, .float .f64 xx, .bool es, .bool nl, .int .i64 (p : Nat), .int .i64 ((p + n0 : Nat) : Int)], .int .i64 0, .int .i64 0])) := Lh rfl
  have hk4 : ∀ kd : Int, ((kd0 : Nat) : Int) = kd → (kd = 4 ↔ kd0 = 4) := fun kd h => by omega
  obtain ⟨kd, hkd⟩ : ∃ kd : Int, ((kd0 : Nat) : Int) = kd := ⟨_, rfl⟩
  have hk4 := hk4 kd hkd
  obtain ⟨tx, htx⟩ : ∃ tx : ByteArray, (⟨(bL t0).toArray⟩ : ByteArray) = tx := ⟨_, rfl⟩
  obtain ⟨fi, hfi⟩ : ∃ fi : Int, ((p + n0 : Nat) : Int) = fi := ⟨_, rfl⟩
  rw [hkd, htx, hfi] at CT HE
  clear hkd htx hfi
  cases op
  ·rw [if_neg (by simp)]
   show Calls _ _ _ _ fun e w' => e = NxE (0, some ⟨kd0, t0, xx, es, nl, p, p + n0⟩) ∧ _
   rw [HE.out]
   exact Aft s k p nl kd fi tx xx es w hpI t1 t2 hgt hk0 T0 CL CK CT
  ·by_cases e4 : kd0 = 4
   ·obtain rfl : kd = 4 := hk4.2 e4
    by_cases h47 : c = 47
    ·subst h47
     rw [if_pos (.inr ⟨rfl, rfl⟩)]
     exact Afx s k p nl fi tx xx es w hpI t1 t2 hgt hk0 T0 CL CK CT (Lh CI)
    ·rw [if_neg (by simpa using h47)]
     show Calls _ _ _ _ fun e w' => e = NxE (0, some ⟨kd0, t0, xx, es, nl, p, p + n0⟩) ∧ _
     rw [HE.out]
     have g1 : (c == 47) = false := by rw [beq_eq_false_iff_ne]; exact h47
     rw [g1] at CI
     exact Add s k p nl fi tx xx es w hpI t1 t2 hgt hk0 T0 CL CK CT (Lh CI)
   ·have h47 : c ≠ 47 := fun h => e4 (hsl h)
    rw [if_neg (by simpa using h47)]
    show Calls _ _ _ _ fun e w' => e = NxE (0, some ⟨kd0, t0, xx, es, nl, p, p + n0⟩) ∧ _
    rw [HE.out]
    exact Ag4 s k p nl kd fi tx xx es w hpI t1 t2 hgt hk0 T0 CL CK CT (by rw [beq_eq_false_iff_ne]; exact fun h => e4 (hk4.1 h))

end
section
theorem Aeg (s : ByteArray) (w : World) (hs : s.size ≤ 1099511627776) :
    Cp 14 #[.string s] w (Ake w.heap.size (O4 (us s)) w) := by
  obtain ⟨i0, hi, hz0, hz1, hz2⟩ := info_parts Vg
  have hln := Ap s
  have CN := Lh (fun (j : Nat) (hj : j ≤ ln s) W => Pm s j false W hs hj)
  obtain ⟨R, hR⟩ : ∃ R, O4 (us s) = R := ⟨_, rfl⟩
  have hR0 : Is [] (Ij 0 ((us s).drop 0)) = R := by
    rw [← hR, List.drop_zero]
    show Is [] (O4 (us s)) = _
    rcases h : O4 (us s) with ⟨q, _ | ts⟩
    · rfl
    · have h2 : Ij 0 (us s) = (q, some ts) := h
      rw [Ge] at h2
      have : q = 0 := by
        rcases h3 : If 0 (us s) with ⟨q1, _ | t⟩
        · rw [h3] at h2
          cases h2
        · rw [h3] at h2
          simp only [] at h2
          split at h2
          · cases h2; rfl
          · split at h2
            · cases h2
            · cases h2; rfl
      rw [this]
      rfl
  rw [hR]
  have HR := Lh hR0
  have HL := Lh (show ln s ≤ 2199023255552 by omega)
  clear hs hln hR hR0
  go_enter Tryz.func14, Tryz.ntmps14
  go_wp2
  go_loopw [5, 6] (fun lv av wr => ∃ (j : Nat) (ts : List Tok) (v : Value), lv = v ∧ av = .int .i64 j ∧ j ≤ ln s ∧ Hid (ts.length ≤ j ∧ Is ts (Ij j ((us s).drop j)) = R) ∧ OwnT w.heap.size ts v wr ∧ Below w.heap.size w wr) (fun _ av _ => ln s - (intOf av).toNat)
  case atStart => exact ⟨0, [], _, rfl, by go_num, Nat.zero_le _, Lh ⟨Nat.zero_le _, HR.out⟩, OwnT.nil _ _, Below.refl _ _⟩
  case round =>
    obtain ⟨j, ts, v, hv, rfl, hj, HJ, H, hb⟩ := hrel
    obtain rfl := hv.symm
    have C1 := CN.out j hj
    rw [N9] at C1
    obtain ⟨h1, h2⟩ := HJ.out
    rw [Ge] at h2
    have hsz := hb.size
    have H1 := Lh h1
    have HJ3 := Lh hj
    have htl : ts.length ≤ 2199023255552 := by have := HL.out; omega
    clear HJ h1 hj
    rcases hn : If j ((us s).drop j) with ⟨q, _ | t⟩
    · rw [hn] at C1 h2
      obtain rfl : R = (q, none) := h2.symm
      have C1 := Lh (show ∀ W, Cp 10 #[.string s, .int .i64 j, .bool false] W fun e w' => e = .returned (.tuple #[.agg #[.int .i64 0, .string ⟨#[]⟩, .float .f64 0, .bool false, .bool false, .int .i64 0, .int .i64 0], .int .i64 (q : Nat), .int .i64 60]) ∧ Below W.heap.size W w' from C1)
      clear hn h2 HR htl
      go_wp2_with fail
      refine Bm (C1.out _) fun w1 b1 => ?_
      have hb2 := Lh ((hb.trans (b1.mono hsz)).alloc (by have := b1.size; omega) (.cells #[.int .i64 0, .string ⟨#[]⟩, .float .f64 0, .bool false, .bool false, .int .i64 0, .int .i64 0] 24))
      clear hb b1 H
      go_wp2_with (first | (refine tkS rfl rfl w1.heap.size 0 ⟨#[]⟩ 0 false false 0 0 rfl rfl (heap_alloc_last w1 _) ?_; rw [World.setRow_alloc_new]))
      go_ret3
      exact ⟨rfl, hb2.out⟩
    · rw [hn] at C1 h2
      obtain ⟨n1, n2, n3, n4, n5, n6, rfl⟩ := X8 hn
      rw [List.length_drop, Ab] at n3
      have hfl : t.fin ≤ ln s := by have := HJ3.out; omega
      have n7 := fun h => Wc hn h
      have C1 := Lh (show ∀ W, Cp 10 #[.string s, .int .i64 j, .bool false] W fun e w' => e = .returned (.tuple #[.agg #[.int .i64 (t.kind : Int), .string ⟨(bL t.text).toArray⟩, .float .f64 t.num, .bool t.esc, .bool t.nl, .int .i64 (t.pos : Int), .int .i64 (t.fin : Int)], .int .i64 0, .int .i64 0]) ∧ Below W.heap.size W w' from C1)
      have HT : Hid (tkC t = [.int .i64 (t.kind : Int), .string ⟨(bL t.text).toArray⟩, .float .f64 t.num, .bool t.esc, .bool t.nl, .int .i64 (t.pos : Int), .int .i64 (t.fin : Int)]) := Lh rfl
      obtain ⟨kd, hkd⟩ : ∃ kd : Int, (t.kind : Int) = kd := ⟨_, rfl⟩
      obtain ⟨tx, htx⟩ : ∃ tx : ByteArray, (⟨(bL t.text).toArray⟩ : ByteArray) = tx := ⟨_, rfl⟩
      obtain ⟨fi, hfi⟩ : ∃ fi : Int, (t.fin : Int) = fi := ⟨_, rfl⟩
      obtain ⟨po, hpo⟩ : ∃ po : Int, (t.pos : Int) = po := ⟨_, rfl⟩
      obtain ⟨xx, hxx⟩ : ∃ xx, t.num = xx := ⟨_, rfl⟩
      obtain ⟨es, hes⟩ : ∃ es, t.esc = es := ⟨_, rfl⟩
      obtain ⟨nl, hnl⟩ : ∃ nl, t.nl = nl := ⟨_, rfl⟩
      rw [hkd, htx, hfi, hpo, hxx, hes, hnl] at C1 HT
      have HKD := Lh hkd
      have HFI := Lh hfi
      have HFL := Lh hfl
      have N7 := Lh n7
      have HX : Hid (if t.kind = 1 then R = (0, some (ts ++ [t])) else Is (ts ++ [t]) (Ij t.fin ((us s).drop t.fin)) = R) := Lh (by
        rw [← h2]
        simp only []
        split
        · rfl
        · rw [List.drop_drop, show j + (t.fin - j) = t.fin by omega]
          rcases Ij t.fin ((us s).drop t.fin) with ⟨q, _ | us⟩
          · rfl
          · simp [Is])
      clear htx hfi hpo hxx hes hnl hn h2 n1 n2 n3 n4 n5 n6 n7 hfl HR
      have main : ∀ b : Bool, decide (t.kind = 1) = b → (kd == 1) = b := fun b h => by
        rw [← h, ← hkd, Bool.eq_iff_iff]
        simp
        omega
      clear hkd
      cases hk : decide (t.kind = 1)
      all_goals
        have g1 := main _ hk
        have HK := Lh hk
        clear main hk
        go_wp2_with fail
        refine Bm (C1.out _) fun w1 b1 => ?_
        have hb1 := hb.trans (b1.mono hsz)
        have o1 := OwnT.below H b1
        have hs1 := b1.size
        have HLT := Lh (fun k hk => World.ownsRow.lt H k hk)
        clear H hb b1
        have HC1 := Lh (Po w1 kd po fi tx xx es nl)
        have HC2 : Hid (∀ u ∈ ([.int .i64 kd, .string tx, .float .f64 xx, .bool es, .bool nl, .int .i64 po, .int .i64 fi] : List Value), u.oneCell' = true) := Lh (by simp [Value.oneCell'])
        have HC3 : Hid (w.heap.size ≤ ((w1.alloc (.cells #[.int .i64 kd, .string tx, .float .f64 xx, .bool es, .bool nl, .int .i64 po, .int .i64 fi] 24)).alloc (.cells #[.int .i64 kd, .string tx, .float .f64 xx, .bool es, .bool nl, .int .i64 po, .int .i64 fi] 24)).heap.size) := Lh (by simp; omega)
        go_wp2_with (first | (refine tkS rfl rfl w1.heap.size kd tx xx es nl po fi rfl rfl (heap_alloc_last w1 _) ?_; rw [World.setRow_alloc_new]) | (at_builtin; refine wpList_append_own _ rfl _ _ 31 rfl w.heap.size 24 i0 (.agg #[.int .i64 0, .string ⟨#[]⟩, .float .f64 0, .bool false, .bool false, .int .i64 0, .int .i64 0]) 7 56 Tryz.underlying31 hi hz0 hz1 hz2 rfl (by decide) _ _ _ rfl (World.ownsRow.alloc (w := w1.alloc (.cells #[.int .i64 kd, .string tx, .float .f64 xx, .bool es, .bool nl, .int .i64 po, .int .i64 fi] 24)) (World.ownsRow.alloc (w := w1) o1 _) _) ⟨w1.heap.size + 1, 0, none⟩ 1 1 [.int .i64 kd, .string tx, .float .f64 xx, .bool es, .bool nl, .int .i64 po, .int .i64 fi] rfl rfl HC1.out HC2.out (by unfold maxLen; omega) (by omega) HC3.out ?_))
        intro v' w2 hown hg _
        have o2 : OwnT w.heap.size (ts ++ [t]) v' w2 := by
          unfold OwnT
          rw [List.length_append, List.flatMap_append, List.flatMap_cons, List.flatMap_nil, List.append_nil, HT.out]
          exact hown
        have hG : w2.heap[w1.heap.size]? = some (.cells #[.int .i64 kd, .string tx, .float .f64 xx, .bool es, .bool nl, .int .i64 po, .int .i64 fi] 24 (0, 0)) := (hg.block _ (by simp; omega) (fun e => by have := (HLT.out _ e.symm).2; omega)).trans (Pv w1 kd po fi tx xx es nl)
        have c0 : w2.cell? ⟨w1.heap.size, 0, none⟩ = some (.int .i64 kd) := by simp [World.cell?, hG]
        have c6 : w2.cell? ⟨w1.heap.size, 6, none⟩ = some (.int .i64 fi) := by simp [World.cell?, hG]
        have hb2 : Below w.heap.size w w2 := ((hb1.alloc (by omega) (.cells #[.int .i64 kd, .string tx, .float .f64 xx, .bool es, .bool nl, .int .i64 po, .int .i64 fi] 24)).alloc (by simp; omega) (.cells #[.int .i64 kd, .string tx, .float .f64 xx, .bool es, .bool nl, .int .i64 po, .int .i64 fi] 24)).grown hg HC3.out (fun k hk => (HLT.out k hk).1)
        clear hown hg hG o1 hb1
        go_wp2
        first
          | (go_ret3
             have hR := HX.out
             rw [if_pos (by simpa using HK.out)] at hR
             rw [hR]
             exact ⟨⟨v', rfl, o2⟩, hb2⟩)
          | (go_roundw
             case rel =>
               have hk1 : t.kind ≠ 1 := by simpa using HK.out
               have hR := HX.out
               rw [if_neg hk1] at hR
               exact ⟨t.fin, ts ++ [t], v', rfl, by rw [HFI.out], HFL.out, Lh ⟨by rw [List.length_append, List.length_singleton]; have := H1.out; have := N7.out hk1; omega, hR⟩, o2, hb2⟩
             case measure =>
               have hk1 : t.kind ≠ 1 := by simpa using HK.out
               have := N7.out hk1
               have := HFL.out
               have := HFI.out
               simp [intOf]
               omega)
theorem Acn (s : ByteArray) (a : Int) (op : Bool) (w : World) (hs : s.size ≤ 1099511627776) (h : a < 0) :
  Ct 9 #[.string s, .int .i64 a, .bool op] (.tuple #[.agg #[.int .i64 0, .string ⟨#[]⟩, .float .f64 0, .bool false, .bool false, .int .i64 0, .int .i64 0], .int .i64 0, .int .i64 1]) w := by
 have hs63 : s.size ≤ maxLen := by unfold maxLen; omega
 have CL := Lh (fun W => Cr s W hs63)
 have T1 := TB.start w
 have HG := Lh T1.bl
 have HB := Lh T1.bw
 have g0 : a < 0 := h
 clear hs hs63 T1
 go_enter Tryz.func9, Tryz.ntmps9
 go_wp2_with (refine tkS rfl rfl w.heap.size 0 ⟨#[]⟩ 0 false false 0 0 rfl rfl HG.out ?_)
 refine Hw rfl rfl HG.out rfl rfl ⟨?_, Ae HB.out (Nat.le_refl _) _⟩
 rfl
theorem Ab0 (s : ByteArray) (a : Int) (op : Bool) (w : World) (hs : s.size ≤ 1099511627776) (h : (ln s : Int) < a) :
  Ct 9 #[.string s, .int .i64 a, .bool op] (.tuple #[.agg #[.int .i64 0, .string ⟨#[]⟩, .float .f64 0, .bool false, .bool false, .int .i64 0, .int .i64 0], .int .i64 0, .int .i64 1]) w := by
 have hs63 : s.size ≤ maxLen := by unfold maxLen; omega
 have CL := Lh (fun W => Cr s W hs63)
 have T1 := TB.start w
 have HG := Lh T1.bl
 have HB := Lh T1.bw
 have g0 : ¬ a < 0 := by omega
 have g1 : (ln s : Int) < a := h
 clear hs hs63 T1
 go_enter Tryz.func9, Tryz.ntmps9
 go_wp2_with fail
 refine Sm (CL.out _) ?_
 go_wp2_with (refine tkS rfl rfl w.heap.size 0 ⟨#[]⟩ 0 false false 0 0 rfl rfl HG.out ?_)
 refine Hw rfl rfl HG.out rfl rfl ⟨?_, Ae HB.out (Nat.le_refl _) _⟩
 rfl
theorem Aa8 (s : ByteArray) (a : Int) (op : Bool) (w : World) (hs : s.size ≤ 1099511627776) (h : a < 0) :
  Ct 10 #[.string s, .int .i64 a, .bool op] (.tuple #[.agg #[.int .i64 0, .string ⟨#[]⟩, .float .f64 0, .bool false, .bool false, .int .i64 0, .int .i64 0], .int .i64 0, .int .i64 1]) w := by
 have hs63 : s.size ≤ maxLen := by unfold maxLen; omega
 have CL := Lh (fun W => Cw s W hs63)
 have T1 := TB.start w
 have HG := Lh T1.bl
 have HB := Lh T1.bw
 have g0 : a < 0 := h
 clear hs hs63 T1
 go_enter Tryz.func10, Tryz.ntmps10
 go_wp2_with (refine tkS rfl rfl w.heap.size 0 ⟨#[]⟩ 0 false false 0 0 rfl rfl HG.out ?_)
 refine Hw rfl rfl HG.out rfl rfl ⟨?_, Ae HB.out (Nat.le_refl _) _⟩
 rfl
theorem Ack (s : ByteArray) (a : Int) (op : Bool) (w : World) (hs : s.size ≤ 1099511627776) (h : (ln s : Int) < a) :
  Ct 10 #[.string s, .int .i64 a, .bool op] (.tuple #[.agg #[.int .i64 0, .string ⟨#[]⟩, .float .f64 0, .bool false, .bool false, .int .i64 0, .int .i64 0], .int .i64 0, .int .i64 1]) w := by
 have hs63 : s.size ≤ maxLen := by unfold maxLen; omega
 have CL := Lh (fun W => Cw s W hs63)
 have T1 := TB.start w
 have HG := Lh T1.bl
 have HB := Lh T1.bw
 have g0 : ¬ a < 0 := by omega
 have g1 : (ln s : Int) < a := h
 clear hs hs63 T1
 go_enter Tryz.func10, Tryz.ntmps10
 go_wp2_with fail
 refine Sm (CL.out _) ?_
 go_wp2_with (refine tkS rfl rfl w.heap.size 0 ⟨#[]⟩ 0 false false 0 0 rfl rfl HG.out ?_)
 refine Hw rfl rfl HG.out rfl rfl ⟨?_, Ae HB.out (Nat.le_refl _) _⟩
 rfl

end
section
theorem Ad4 {ts : List Tok} {i : Nat} {t : Tok} (h : ts[i]? = some t) (k : Nat) (hk : k < 7) : (ts.flatMap tkC)[i * 7 + k]? = (tkC t)[k]? := by
 induction ts generalizing i with
 | nil => simp at h
 | cons a r ih =>
  cases i with
  | zero =>
   obtain rfl : a = t := by simpa using h
   rw [List.flatMap_cons, List.getElem?_append_left (by show 0 * 7 + k < 7; omega)]
   simp
  | succ i =>
   rw [List.flatMap_cons, List.getElem?_append_right (by show 7 ≤ (i + 1) * 7 + k; omega)]
   rw [show (i + 1) * 7 + k - (tkC a).length = i * 7 + k by show (i + 1) * 7 + k - 7 = _; omega]
   exact ih (by simpa using h)

end
section
theorem Nf (kd po fi : Int) (tx : ByteArray) (xx : Nat) (es nl : Bool) (w : World) (hx : (FloatKind.f64.format.order xx xx == some .eq) = true) :
  Ct 11 #[.agg #[.int .i64 kd, .string tx, .float .f64 xx, .bool es, .bool nl, .int .i64 po, .int .i64 fi], .agg #[.int .i64 kd, .string tx, .float .f64 xx, .bool es, .bool nl, .int .i64 po, .int .i64 fi]] (.bool true) w := by
 have hb : Below w.heap.size w ((w.alloc (.cells #[.int .i64 kd, .string tx, .float .f64 xx, .bool es, .bool nl, .int .i64 po, .int .i64 fi] 24)).alloc (.cells #[.int .i64 kd, .string tx, .float .f64 xx, .bool es, .bool nl, .int .i64 po, .int .i64 fi] 24)) := ((Below.refl _ _).alloc (Nat.le_refl _) _).alloc (by simp) _
 have HB := Lh hb
 clear hb
 cases es <;> cases nl
 all_goals
  go_enter Tryz.func11, Tryz.ntmps11
  go_wp2
  go_ret
  exact ⟨rfl, HB.out⟩
theorem O3 (ts : List Tok) (g1 g2 n cap1 cap2 : Nat) (w : World) (hn : ts.length = n) (hmx : n ≤ 9223372036854775806) (h1 : n ≤ cap1) (h2 : n ≤ cap2) (hg1 : g1 < w.heap.size) (hg2 : g2 < w.heap.size)
  (c1 : ∀ i x, (ts.flatMap tkC)[i]? = some x → w.cell? ⟨g1, i, none⟩ = some x) (c2 : ∀ i x, (ts.flatMap tkC)[i]? = some x → w.cell? ⟨g2, i, none⟩ = some x)
  (hx : ∀ t ∈ ts, (FloatKind.f64.format.order t.num t.num == some .eq) = true) :
  Ct 15 #[.slice (some ⟨g1, 0, none⟩) n cap1, .slice (some ⟨g2, 0, none⟩) n cap2] (.bool true) w := by
 have HC1 := Lh c1
 have HC2 := Lh c2
 have HX := Lh hx
 have HN := Lh hn
 have HMX := Lh hmx
 clear c1 c2 hx hn hmx
 go_enter Tryz.func15, Tryz.ntmps15
 go_wp2
 go_loopw [5] (fun iv wr => ∃ i : Nat, iv = .int .i64 i ∧ i ≤ n ∧ Below w.heap.size w wr) (fun iv _ => n - (intOf iv).toNat)
 case atStart => exact ⟨0, by go_num, Nat.zero_le _, Below.refl _ _⟩
 case round =>
  obtain ⟨i, rfl, hi, hb⟩ := hrel
  rcases Nat.lt_or_ge i n with hlt | hge
  ·have hi1 : (i : Int) + 1 ≤ 9223372036854775807 := by have := HMX.out; omega
   have hia : i < cap1 := by omega
   have hib : i < cap2 := by omega
   obtain ⟨t, ht⟩ : ∃ t, ts[i]? = some t := ⟨_, List.getElem?_eq_getElem (by rw [HN.out]; exact hlt)⟩
   have hxt := HX.out t (List.mem_of_getElem? ht)
   have hc : ∀ k x, k < 7 → (tkC t)[k]? = some x → wr.cell? ⟨g1, i * 7 + k, none⟩ = some x := fun k x hk hx => (hb.cell (p := ⟨g1, i * 7 + k, none⟩) hg1).trans (HC1.out _ _ (by rw [Ad4 ht k hk]; exact hx))
   have hd : ∀ k x, k < 7 → (tkC t)[k]? = some x → wr.cell? ⟨g2, i * 7 + k, none⟩ = some x := fun k x hk hx => (hb.cell (p := ⟨g2, i * 7 + k, none⟩) hg2).trans (HC2.out _ _ (by rw [Ad4 ht k hk]; exact hx))
   obtain ⟨kd0, tx0, xx, es, nl, po0, fi0⟩ := t
   have k0 : wr.cell? ⟨g1, i * 7, none⟩ = some (.int .i64 (kd0 : Int)) := hc 0 _ (by omega) rfl
   have k1 : wr.cell? ⟨g1, i * 7 + 1, none⟩ = some (.string ⟨(bL tx0).toArray⟩) := hc 1 _ (by omega) rfl
   have k2 : wr.cell? ⟨g1, i * 7 + 2, none⟩ = some (.float .f64 xx) := hc 2 _ (by omega) rfl
   have k3 : wr.cell? ⟨g1, i * 7 + 3, none⟩ = some (.bool es) := hc 3 _ (by omega) rfl
   have k4 : wr.cell? ⟨g1, i * 7 + 4, none⟩ = some (.bool nl) := hc 4 _ (by omega) rfl
   have k5 : wr.cell? ⟨g1, i * 7 + 5, none⟩ = some (.int .i64 (po0 : Int)) := hc 5 _ (by omega) rfl
   have k6 : wr.cell? ⟨g1, i * 7 + 6, none⟩ = some (.int .i64 (fi0 : Int)) := hc 6 _ (by omega) rfl
   have q0 : wr.cell? ⟨g2, i * 7, none⟩ = some (.int .i64 (kd0 : Int)) := hd 0 _ (by omega) rfl
   have q1 : wr.cell? ⟨g2, i * 7 + 1, none⟩ = some (.string ⟨(bL tx0).toArray⟩) := hd 1 _ (by omega) rfl
   have q2 : wr.cell? ⟨g2, i * 7 + 2, none⟩ = some (.float .f64 xx) := hd 2 _ (by omega) rfl
   have q3 : wr.cell? ⟨g2, i * 7 + 3, none⟩ = some (.bool es) := hd 3 _ (by omega) rfl
   have q4 : wr.cell? ⟨g2, i * 7 + 4, none⟩ = some (.bool nl) := hd 4 _ (by omega) rfl
   have q5 : wr.cell? ⟨g2, i * 7 + 5, none⟩ = some (.int .i64 (po0 : Int)) := hd 5 _ (by omega) rfl
   have q6 : wr.cell? ⟨g2, i * 7 + 6, none⟩ = some (.int .i64 (fi0 : Int)) := hd 6 _ (by omega) rfl
   obtain ⟨kd, hkd⟩ : ∃ kd : Int, ((kd0 : Nat) : Int) = kd := ⟨_, rfl⟩
   obtain ⟨tx, htx⟩ : ∃ tx : ByteArray, (⟨(bL tx0).toArray⟩ : ByteArray) = tx := ⟨_, rfl⟩
   obtain ⟨fi, hfi⟩ : ∃ fi : Int, ((fi0 : Nat) : Int) = fi := ⟨_, rfl⟩
   obtain ⟨po, hpo⟩ : ∃ po : Int, ((po0 : Nat) : Int) = po := ⟨_, rfl⟩
   rw [hkd] at k0 q0
   rw [htx] at k1 q1
   rw [hpo] at k5 q5
   rw [hfi] at k6 q6
   have CS := Lh (fun W => Nf kd po fi tx xx es nl W hxt)
   have HB := Lh hb
   clear hc hd ht hxt hkd htx hfi hpo hb h1 h2
   go_wp2
   refine wp_region_still_tail 8 (by kernel_rfl) (by kernel_rfl) ?_
   simp only [List.take_succ_cons, List.take_zero, List.drop_succ_cons, List.drop_zero]
   repeat still_step
   refine wpStill_nil ?_
   go_wp2_with fail
   refine Bm (CS.out _) fun w8 b8 => ?_
   have hb8 := Lh (Aa (Ac HB.out 1) b8)
   clear b8 k0 k1 k2 k3 k4 k5 k6 q0 q1 q2 q3 q4 q5 q6
   go_wp2
   go_roundw
   case rel => exact ⟨i + 1, by go_num, hlt, hb8.out⟩
   case measure => simp [intOf]; omega
  ·obtain rfl : i = n := by omega
   have HB := Lh hb
   clear hb
   go_wp2
   go_ret
   exact ⟨rfl, HB.out⟩

end
section
theorem Aji (l : List Nat) : Jv l ≤ 9218868437227405312 := by
 have h : ∀ N e, Bq N e ≤ 9218868437227405312 := fun N e => Nat.min_le_right _ _
 unfold Jv F6 dV
 split
 ·exact h _ _
 ·split
  ·exact h _ _
  ·exact Nat.zero_le _
theorem Af9 {x : Nat} (h : x ≤ 9218868437227405312) : (FloatKind.f64.format.order x x == some .eq) = true := by
 have h1 := Vt x
 have h2 : Hj x = false := by
  unfold Hj
  have : Cm x = x := by
   unfold Cm
   rw [Nat.mod_eq_of_lt (by omega)]
  rw [this]
  simpa using h
 rw [h2] at h1
 simpa using h1
theorem Pe {l t : List Nat} {k x n : Nat} {e : Bool} (h : Dn l = some (k, t, x, e, n)) : (FloatKind.f64.format.order x x == some .eq) = true := by
 apply Af9
 cases l with
 | nil => cases h; exact Nat.zero_le _
 | cons c r =>
  rw [Dn] at h
  split at h
  ·cases hn : Nj (c :: r) with
   | none => rw [hn] at h; cases h
   | some p => rw [hn] at h; cases h; exact Nat.zero_le _
  ·split at h
   ·cases hn : Fa c r with
    | none => rw [hn] at h; cases h
    | some p => rw [hn] at h; cases h; exact Nat.zero_le _
   ·split at h
    ·unfold N8 at h
     split at h
     ·cases h
      exact Aji _
     ·cases h
    ·cases hn : Eh (c :: r) with
     | none => rw [hn] at h; cases h
     | some p => rw [hn] at h; cases h; exact Nat.zero_le _
theorem Ag9 {p q : Nat} {l : List Nat} {t : Tok} (h : If p l = (q, some t)) : (FloatKind.f64.format.order t.num t.num == some .eq) = true := by
 unfold If at h
 split at h
 ·cases h
 ·split at h
  ·cases h
  ·rename_i k tx x e n hr
   cases h
   exact Pe hr
theorem Z7 : ∀ (f p q : Nat) (l : List Nat) (ts : List Tok), l.length < f → Ij p l = (q, some ts) → ∀ t ∈ ts, (FloatKind.f64.format.order t.num t.num == some .eq) = true
 | 0, _, _, _, _, h, _ => by omega
 | f + 1, p, q, l, ts, hl, h => by
  rw [Ge] at h
  rcases hn : If p l with ⟨q1, _ | k⟩
  ·rw [hn] at h
   cases h
  ·rw [hn] at h
   simp only [] at h
   have hk := Ag9 hn
   split at h
   ·cases h
    intro t ht
    simp at ht
    subst ht
    exact hk
   ·rename_i hk1
    have hlt := Wc hn hk1
    have hle := (X8 hn).2.2.1
    rcases ha : Ij k.fin (l.drop (k.fin - p)) with ⟨q2, _ | us⟩
    ·rw [ha] at h
     cases h
    ·rw [ha] at h
     cases h
     intro t ht
     rcases List.mem_cons.1 ht with rfl | ht
     ·exact hk
     ·exact Z7 f k.fin q2 _ us (by rw [List.length_drop]; omega) ha t ht
end
section
theorem Qw (w : World) : Ct 15 #[.slice none 0 0, .slice none 0 0] (.bool true) w := by
 go_enter Tryz.func15, Tryz.ntmps15
 go_wp2
 go_loopw [5] (fun iv wr => iv = .int .i64 0 ∧ Below w.heap.size w wr) (fun iv _ => 0)
 case atStart => exact ⟨rfl, Below.refl _ _⟩
 case round =>
  obtain ⟨rfl, hb⟩ := hrel
  have HB := Lh hb
  clear hb
  go_wp2
  go_ret
  exact ⟨rfl, HB.out⟩
theorem Qg : ∀ (f p q : Nat) (l : List Nat) (ts : List Tok), Ov f p l = (q, some ts) → ts ≠ [] ∧ ts.length ≤ f
 | 0, _, _, _, _, h => by cases h
 | f + 1, p, q, l, ts, h => by
  rw [Ov] at h
  split at h
  ·cases h
  ·split at h
   ·cases h
   ·split at h
    ·cases h
     exact ⟨by simp, by simp⟩
    ·split at h
     ·cases h
     ·rename_i ha
      cases h
      exact ⟨by simp, by have := (Qg f _ _ _ _ ha).2; simp; omega⟩
theorem Aeq (s : ByteArray) (w : World) (hs : s.size ≤ 1048576) :
  Ct 4 #[.string s] (.bool true) w := by
 have hln := Ap s
 have C1 := fun W => Tc s W (by omega)
 have C2 := fun W => Aeg s W (by omega)
 have CA := Lh (fun W => Pp W)
 rcases hR : O4 (us s) with ⟨q, _ | ts⟩
 ·rw [hR] at C1 C2
  have CN := Lh (fun W => Qw W)
  have C1 := Lh (show ∀ W, Cp 13 #[.string s] W fun e w' => e = .returned (.tuple #[.slice none 0 0, .int .i64 (q : Int), .int .i64 60]) ∧ Below W.heap.size W w' from C1)
  have C2 := Lh (show ∀ W, Cp 14 #[.string s] W fun e w' => e = .returned (.tuple #[.slice none 0 0, .int .i64 (q : Int), .int .i64 60]) ∧ Below W.heap.size W w' from C2)
  clear hR hs hln
  go_enter Tryz.func4, Tryz.ntmps4
  go_wp2_with fail
  refine Bm (C1.out _) fun w1 b1 => ?_
  go_wp2_with fail
  refine Bm (C2.out _) fun w2 b2 => ?_
  have B2 := Lh (Aa b1 b2)
  clear b1 b2
  go_wp2_with fail
  refine Bm (CN.out _) fun w3 b3 => ?_
  have B3 := Lh (Aa B2.out b3)
  clear b3
  go_wp2_with fail
  refine Bm (CA.out _) fun w4 b4 => ?_
  have B4 := Lh (Aa B3.out b4)
  clear b4
  go_wp2
  go_ret
  exact ⟨by simp, B4.out⟩
 ·have hq : q = 0 := by
   have h2 : Ij 0 (us s) = (q, some ts) := hR
   rw [Ge] at h2
   rcases h3 : If 0 (us s) with ⟨q1, _ | t⟩
   ·rw [h3] at h2
    cases h2
   ·rw [h3] at h2
    simp only [] at h2
    split at h2
    ·cases h2; rfl
    ·split at h2
     ·cases h2
     ·cases h2; rfl
  subst hq
  obtain ⟨hne, hct⟩ := Qg _ _ _ _ _ hR
  rw [Ab] at hct
  have hnum := Z7 ((us s).length + 1) 0 0 (us s) ts (by omega) hR
  rw [hR] at C1 C2
  have C1 := Lh (show ∀ W, Cp 13 #[.string s] W fun e w' => (∃ v, e = .returned (.tuple #[v, .int .i64 0, .int .i64 0]) ∧ OwnT W.heap.size ts v w') ∧ Below W.heap.size W w' from C1)
  have C2 := Lh (show ∀ W, Cp 14 #[.string s] W fun e w' => (∃ v, e = .returned (.tuple #[v, .int .i64 0, .int .i64 0]) ∧ OwnT W.heap.size ts v w') ∧ Below W.heap.size W w' from C2)
  have HNE := Lh hne
  have HNM := Lh hnum
  have HCT := Lh (show ts.length ≤ 9223372036854775806 by omega)
  clear hR hs hln hne hct hnum
  go_enter Tryz.func4, Tryz.ntmps4
  go_wp2_with fail
  refine (C1.out _).mono ?_
  rintro e w1 ⟨⟨v1, rfl, o1⟩, b1⟩
  go_wp2_with fail
  refine (C2.out _).mono ?_
  rintro e w2 ⟨⟨v2, rfl, o2⟩, b2⟩
  have B2 := Lh (Aa b1 b2)
  have o3 := OwnT.below o1 b2
  rcases Sk o3 with ⟨h, _⟩ | ⟨g1, cap1, rfl, hc1, hg1, hl1, hcell1⟩
  ·exact absurd h HNE.out
  rcases Sk o2 with ⟨h, _⟩ | ⟨g2, cap2, rfl, hc2, hg2, hl2, hcell2⟩
  ·exact absurd h HNE.out
  have CS := Lh (O3 ts g1 g2 ts.length cap1 cap2 w2 rfl HCT.out hc1 hc2 hl1 hl2 hcell1 hcell2 HNM.out)
  clear b1 b2 o1 o2 o3 hc1 hg1 hl1 hcell1 hc2 hg2 hl2 hcell2
  go_wp2_with fail
  refine CS.out.mono ?_
  rintro e w3 ⟨rfl, b3⟩
  have B3 := Lh (Aa B2.out b3)
  clear b3
  go_wp2_with fail
  refine Bm (CA.out _) fun w4 b4 => ?_
  have B4 := Lh (Aa B3.out b4)
  clear b4
  go_wp2
  go_ret
  exact ⟨by simp, B4.out⟩
theorem Gm (s : ByteArray) (a : Int) (op : Bool) (kd po fi q er : Int) (tx : ByteArray) (xx : Nat) (es nl : Bool) (w : World) (hxx : (FloatKind.f64.format.order xx xx == some .eq) = true)
  (C1 : Hid (∀ W, Ct 9 #[.string s, .int .i64 a, .bool op] (.tuple #[.agg #[.int .i64 kd, .string tx, .float .f64 xx, .bool es, .bool nl, .int .i64 po, .int .i64 fi], .int .i64 q, .int .i64 er]) W))
  (C2 : Hid (∀ W, Ct 10 #[.string s, .int .i64 a, .bool op] (.tuple #[.agg #[.int .i64 kd, .string tx, .float .f64 xx, .bool es, .bool nl, .int .i64 po, .int .i64 fi], .int .i64 q, .int .i64 er]) W)) :
  Ct 3 #[.string s, .int .i64 a, .bool op] (.bool true) w := by
 have CA := Lh (fun W => Pp W)
 have CS := Lh (fun W => Nf kd po fi tx xx es nl W hxx)
 clear hxx
 go_enter Tryz.func3, Tryz.ntmps3
 go_wp2_with fail
 refine Bm (C1.out _) fun w1 b1 => ?_
 go_wp2_with (refine tkS rfl rfl w1.heap.size kd tx xx es nl po fi rfl rfl (heap_alloc_last w1 _) ?_; rw [World.setRow_alloc_new])
 obtain ⟨W7, hW7, ⟨k0, k1, k2, k3, k4, k5, k6⟩, f4, hs7, bW7⟩ := Ml w1 (.int .i64 kd) (.string tx) (.float .f64 xx) (.bool es) (.bool nl) (.int .i64 po) (.int .i64 fi)
 rw [hW7]
 refine Bm (C2.out _) fun w2 b2 => ?_
 have hb2 := Lh (Aa (Aa b1 bW7) b2)
 have j0 := At b2 _ (0, _) k0
 have j1 := At b2 _ (1, _) k1
 have j2 := At b2 _ (2, _) k2
 have j3 := At b2 _ (3, _) k3
 have j4 := At b2 _ (4, _) k4
 have j5 := At b2 _ (5, _) k5
 have j6 := At b2 _ (6, _) k6
 clear b1 bW7 b2 k0 k1 k2 k3 k4 k5 k6 f4 hs7 hW7
 obtain ⟨W8, hW8, ⟨k0, k1, k2, k3, k4, k5, k6⟩, f4, hs8, bW8⟩ := Ml w2 (.int .i64 kd) (.string tx) (.float .f64 xx) (.bool es) (.bool nl) (.int .i64 po) (.int .i64 fi)
 have hb8 := Lh (Aa hb2.out bW8)
 have i0 := At bW8 _ (0, _) j0
 have i1 := At bW8 _ (1, _) j1
 have i2 := At bW8 _ (2, _) j2
 have i3 := At bW8 _ (3, _) j3
 have i4 := At bW8 _ (4, _) j4
 have i5 := At bW8 _ (5, _) j5
 have i6 := At bW8 _ (6, _) j6
 clear j0 j1 j2 j3 j4 j5 j6 bW8 f4 hs8
 simp only [] at i0 i1 i2 i3 i4 i5 i6
 go_wp2_with (refine tkS rfl rfl w2.heap.size kd tx xx es nl po fi rfl rfl (heap_alloc_last w2 _) ?_; rw [World.setRow_alloc_new, hW8])
 refine Bm (CS.out _) fun w3 b3 => ?_
 have B3 := Lh (Aa hb8.out b3)
 clear b3 i0 i1 i2 i3 i4 i5 i6 k0 k1 k2 k3 k4 k5 k6 hW8
 go_wp2_with fail
 refine Bm (CA.out _) fun w4 b4 => ?_
 have B4 := Lh (Aa B3.out b4)
 clear b4
 go_wp2
 go_ret
 exact ⟨by simp, B4.out⟩
theorem Ado {op : Bool} {p q : Nat} {l : List Nat} {t : Tok} (h : Mv op p l = (q, some t)) : q = 0 ∧ (FloatKind.f64.format.order t.num t.num == some .eq) = true := by
 unfold Mv at h
 split at h
 ·cases h
 ·split at h
  ·cases h
  ·rename_i hr
   cases h
   exact ⟨rfl, Pe hr⟩
theorem Yd (s : ByteArray) (a : Int) (op : Bool) (w : World) (hs : s.size ≤ 1048576) :
  Ct 3 #[.string s, .int .i64 a, .bool op] (.bool true) w := by
 have h00 : (FloatKind.f64.format.order 0 0 == some .eq) = true := Af9 (by omega)
 rcases Int.lt_or_le a 0 with h | h
 ·exact Gm s a op 0 0 0 0 1 ⟨#[]⟩ 0 false false w h00 (Lh (fun W => Acn s a op W (by omega) h)) (Lh (fun W => Aa8 s a op W (by omega) h))
 ·rcases Int.lt_or_le (ln s : Int) a with h2 | h2
  ·exact Gm s a op 0 0 0 0 1 ⟨#[]⟩ 0 false false w h00 (Lh (fun W => Ab0 s a op W (by omega) h2)) (Lh (fun W => Ack s a op W (by omega) h2))
  ·obtain ⟨k, rfl⟩ := Int.eq_ofNat_of_zero_le h
   have hk : k ≤ ln s := by omega
   have C1 := fun W => Pr s k op W (by omega) hk
   have C2 := fun W => Pm s k op W (by omega) hk
   rcases hn : Mv op k ((us s).drop k) with ⟨q, _ | t⟩
   ·rw [hn] at C1 C2
    exact Gm s k op 0 0 0 q 60 ⟨#[]⟩ 0 false false w h00 (Lh C1) (Lh C2)
   ·rw [hn] at C1 C2
    exact Gm s k op t.kind t.pos t.fin 0 0 ⟨(bL t.text).toArray⟩ t.num t.esc t.nl w (Ado hn).2 (Lh C1) (Lh C2)

end
end Go.Proofs.YtmimeejjaneedaaGreatDoor
