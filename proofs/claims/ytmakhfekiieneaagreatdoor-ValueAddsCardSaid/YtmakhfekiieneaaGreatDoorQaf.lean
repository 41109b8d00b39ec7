/-
  Merged texts (Tr, Va, Vb, Vc, Vd, Ve, Vf, Vg, Vh, Vi, Vj, Vk, Vl).
-/
import Derived.Test.YtmakhfekiieneaaGreatDoorQae
open Go.RowKit
set_option maxRecDepth 100000
set_option maxHeartbeats 40000000
namespace Go.Proofs.YtmakhfekiieneaaGreatDoor
section
theorem Aj1 (w : World) : Cq 74 #[] (.float .f64 Mn) w := by
 have h1 : (callFunc 69 #[.int .u64 9221120237041090560]).run Tryz.prog w = .ok (.value (.float .f64 9221120237041090560)) w := Ca 9221120237041090560 w
 go_enter Tryz.func74, Tryz.ntmps74
 go_wp2
 go_ret
 exact ⟨rfl, rfl⟩
theorem Rq {u : List Nat} (h : Ra u = true) : u = infL ++ u.drop 8 := by
 unfold Ra at h
 obtain ⟨t, ht⟩ := List.isPrefixOf_iff_prefix.1 h
 rw [← ht, show (infL ++ t).drop 8 = t from rfl]
theorem Am2 {u : List Nat} (h : Ra u = true) : dB u = false := by
 rw [Rq h]
 rfl
theorem Acx {u : List Nat} : (Ra u = true ∧ u.drop 8 = []) ↔ u = infL := by
 constructor
 ·rintro ⟨h1, h2⟩
  have := Rq h1
  rw [h2, List.append_nil] at this
  exact this
 ·intro h; rw [h]; exact ⟨by decide, by decide⟩
theorem Anp (l : List Nat) : Ic l = if l = [] then 0 else if hxB l = true then F2 16 (l.drop 2) else if nbB l = true ∧ nbR l = [] then nbV l else Mn := by
 unfold Ic
 by_cases h0 : l = []
 ·rw [if_pos h0, if_pos h0]
 ·rw [if_neg h0, if_neg h0]
  by_cases h1 : hxB l = true
  ·rw [if_pos h1, if_pos h1]
  ·rw [if_neg h1, if_neg h1]
   unfold nbB nbR nbV
   cases hi : Ra (Bl l)
   ·have hn : ¬ Bl l = infL := fun e => by rw [e] at hi; revert hi; decide
    rw [if_neg hn]
    simp only [Bool.false_or, Bool.false_eq_true, if_false]
    cases hd : dB (Bl l)
    ·simp
    ·simp
   ·have hd := Am2 hi
    simp only [Bool.true_or, if_true, true_and, hd, Bool.false_eq_true, false_and, if_false]
    by_cases he : (Bl l).drop 8 = []
    ·rw [if_pos (Acx.1 ⟨hi, he⟩), if_pos he]
    ·rw [if_neg (fun e => he (Acx.2 e).2), if_neg he]
theorem Xp (s : ByteArray) : (Dn s).size ≤ s.size := by
 unfold Dn slS
 split
 ·rw [ByteArray.size_extract]; omega
 ·exact Nat.zero_le _
theorem Adf (z : Nat) (l : List Nat) : (nrw z l).length = l.length := by unfold nrw; rw [List.length_map]
theorem Ai4 {s : ByteArray} (h : s.size ≤ 140737488355328) : (nrw 0 (us s)).length ≤ 140737488355328 := by
 rw [Adf, I6]
 have := Ia s
 omega
theorem Ao0 : (Ab []).toList.isEmpty = true := by rw [Lib.toList_data]; rfl
theorem Aij (l : List Nat) : (Ab l).toList.isEmpty = decide (l = []) := by
 by_cases h : l = []
 ·rw [h, Ao0]; rfl
 ·rw [(Lk h).2, decide_eq_false h]
theorem Ue (s t l r : ByteArray) (H F : Nat) (c1 c2 c3 c4 : Bool) (w : World)
  (C1 : Hid (∀ W, Cp 71 #[.string s] W fun e w' => e = .returned (.string t) ∧ ∃ n, w' = W.drewN n))
  (C2 : Hid (∀ W, Ct 70 #[.string t] (.string l) W))
  (C3 : Hid (∀ W, Ct 72 #[.string l] (.tuple #[.float .f64 H, .bool c2]) W))
  (C4 : Hid (∀ W, Ct 73 #[.string l] (.tuple #[.float .f64 F, .string r, .bool c3]) W))
  (t1 : l.toList.isEmpty = c1) (t2 : r.toList.isEmpty = c4) :
  Ct 50 #[.string s] (.float .f64 (if c1 = true then 0 else if c2 = true then H else if c3 = true ∧ c4 = true then F else Mn : Nat)) w := by
 have C5 := Lh (fun W => Aj1 W)
 cases c1
 ·cases c2
  ·cases c3
   ·simp only [Bool.false_eq_true, if_false, false_and]
    go_enter Tryz.func50, Tryz.ntmps50
    go_wp2_with fail
    refine Dm (C1.out _) fun n => ?_
    go_wp2_with fail
    refine Bm (C2.out _) fun w1 b1 => ?_
    have B1 := Lh (Ae (Below.refl w.heap.size w) n |>.trans b1)
    clear b1
    go_wp2_with fail
    refine Bm (C3.out _) fun w2 b2 => ?_
    have B2 := Lh (Aa B1.out b2)
    clear b2
    go_wp2_with fail
    refine Bm (C4.out _) fun w3 b3 => ?_
    have B3 := Lh (Aa B2.out b3)
    clear b3
    go_wp2_with fail
    refine Sm (C5.out _) ?_
    go_wp2
    go_ret
    exact ⟨rfl, B3.out⟩
   ·cases c4
    ·simp only [Bool.false_eq_true, if_false, and_false]
     go_enter Tryz.func50, Tryz.ntmps50
     go_wp2_with fail
     refine Dm (C1.out _) fun n => ?_
     go_wp2_with fail
     refine Bm (C2.out _) fun w1 b1 => ?_
     have B1 := Lh (Ae (Below.refl w.heap.size w) n |>.trans b1)
     clear b1
     go_wp2_with fail
     refine Bm (C3.out _) fun w2 b2 => ?_
     have B2 := Lh (Aa B1.out b2)
     clear b2
     go_wp2_with fail
     refine Bm (C4.out _) fun w3 b3 => ?_
     have B3 := Lh (Aa B2.out b3)
     clear b3
     go_wp2_with fail
     refine Sm (C5.out _) ?_
     go_wp2
     go_ret
     exact ⟨rfl, B3.out⟩
    ·simp only [Bool.false_eq_true, if_false, and_self, if_true]
     go_enter Tryz.func50, Tryz.ntmps50
     go_wp2_with fail
     refine Dm (C1.out _) fun n => ?_
     go_wp2_with fail
     refine Bm (C2.out _) fun w1 b1 => ?_
     have B1 := Lh (Ae (Below.refl w.heap.size w) n |>.trans b1)
     clear b1
     go_wp2_with fail
     refine Bm (C3.out _) fun w2 b2 => ?_
     have B2 := Lh (Aa B1.out b2)
     clear b2
     go_wp2_with fail
     refine Bm (C4.out _) fun w3 b3 => ?_
     have B3 := Lh (Aa B2.out b3)
     clear b3
     go_wp2
     go_ret
     exact ⟨rfl, B3.out⟩
  ·simp only [Bool.false_eq_true, if_false, if_true]
   go_enter Tryz.func50, Tryz.ntmps50
   go_wp2_with fail
   refine Dm (C1.out _) fun n => ?_
   go_wp2_with fail
   refine Bm (C2.out _) fun w1 b1 => ?_
   have B1 := Lh (Ae (Below.refl w.heap.size w) n |>.trans b1)
   clear b1
   go_wp2_with fail
   refine Bm (C3.out _) fun w2 b2 => ?_
   have B2 := Lh (Aa B1.out b2)
   clear b2
   go_wp2
   go_ret
   exact ⟨rfl, B2.out⟩
 ·simp only [if_true]
  go_enter Tryz.func50, Tryz.ntmps50
  go_wp2_with fail
  refine Dm (C1.out _) fun n => ?_
  go_wp2_with fail
  refine Bm (C2.out _) fun w1 b1 => ?_
  have B1 := Lh (Ae (Below.refl w.heap.size w) n |>.trans b1)
  clear b1
  go_wp2
  go_ret
  exact ⟨rfl, B1.out⟩
theorem Vb (s : ByteArray) (w : World) (hs : s.size ≤ 140737488355328) :
  Ct 50 #[.string s] (.float .f64 (Ic (nrw 0 (us (Dn s))))) w := by
 have ht := Xp s
 have hl := Ag7 (z := 0) (by omega) (us (Dn s))
 have hln := Ai4 (s := Dn s) (by omega)
 obtain ⟨l, hll⟩ : ∃ l, nrw 0 (us (Dn s)) = l := ⟨_, rfl⟩
 have C2 := fun W => Yo (Dn s) W (by omega)
 rw [hll] at C2 hl hln ⊢
 have h := Ue s (Dn s) (Ab l) (Ab (nbR l)) _ _ (decide (l = [])) (hxB l) (nbB l) (decide (nbR l = [])) w (Lh (fun W => Aha s W (by unfold maxLen; omega))) (Lh C2)
  (Lh (fun W => Lx l W hl hln)) (Lh (fun W => We l W (fun c hc => Nat.lt_trans (hl c hc) (by omega)) hln)) (Aij l) (Aij _)
 refine h.mono fun e w' x => ⟨?_, x.2⟩
 rw [x.1, Anp]
 simp only [decide_eq_true_eq]
 cases h1 : hxB l
 ·simp only [Bool.false_eq_true, if_false]
 ·simp only [if_true]
end
section
def nr1 (u : Nat) : Nat := if 127 < u then 1 else u
theorem Apd (u : Nat) : nr1 u < 128 := by unfold nr1; split <;> omega
theorem Acc (s : ByteArray) (w : World) (hs : s.size ≤ 140737488355328) :
  Ct 75 #[.string s] (.string (Ab (nrw 1 (us s)))) w := by
 obtain ⟨i0, hi, hz0, hz1, hz2⟩ := info_parts An3
 have hl := Ia s
 have hs63 : s.size ≤ maxLen := by unfold maxLen; omega
 have hm : ((ln s : Nat) : Int) ≤ 70368744177664 := by omega
 have C1 := Lh (fun W => Ka s W hs63)
 have C2 := Lh (fun i W => Ae2 s i W hs63)
 have HS := Lh (show ln s ≤ 70368744177664 by omega)
 clear hl hs hs63
 go_enter Tryz.func75, Tryz.ntmps75
 go_wp2
 go_loopw [3, 4] (fun v i wr => ∃ k : Nat, i = .int .i64 k ∧ k ≤ ln s ∧ Hid (Own w.heap.size ((((us s).take k).map nr1).map UInt8.ofNat) v wr) ∧ Hid (Below w.heap.size w wr)) (fun _ i _ => ln s - (intOf i).toNat)
 case atStart => exact ⟨0, rfl, Nat.zero_le _, Lh (Own.nil _ _), Lh (Below.refl _ _)⟩
 case round =>
  obtain ⟨k, rfl, hk, HO, HB⟩ := hrel
  by_cases hlt : k < ln s
  ·have C2k := Lh (C2.out (k : Int) wr)
   have hok : Qg s (k : Int) = true := by unfold Qg; rw [decide_eq_true (by omega), decide_eq_true (by omega)]; rfl
   have hv : unV s (k : Int) = un s k := by unfold unV; rw [hok, if_pos rfl, Int.toNat_natCast]
   rw [hok, hv] at C2k
   have hul := Anq s k
   have HST := Lh (Jz s k hlt)
   obtain ⟨u, hu⟩ : ∃ u, un s k = u := ⟨_, rfl⟩
   rw [hu] at hul HST C2k
   have a2 : (k : Int) < (ln s : Int) := by omega
   clear hok hv hu
   have hc1 := Apd u
   have KEY := Lh (show ∀ v' w2, w2.ownsRow w.heap.size 5 1 v' (((((us s).take k).map nr1).map UInt8.ofNat).length + 1) (Lib.byteCells ((((us s).take k).map nr1).map UInt8.ofNat) ++ [.int .u8 (nr1 u : Nat)]) → Own w.heap.size ((((us s).take (k + 1)).map nr1).map UInt8.ofNat) v' w2 from fun v' w2 h => by
    rw [Pv _ _ (by omega)] at h
    rw [Own, HST.out, List.map_append, List.map_append]
    simpa using h)
   by_cases hb : 127 < u
   ·have t1 : decide ((127 : Int) < (u : Int)) = true := decide_eq_true (by omega)
    have e0 : nr1 u = 1 := if_pos hb
    rw [e0] at KEY
    go_wp2_with fail
    refine Sm (C1.out _) ?_
    go_wp2_with fail
    refine C2k.out.mono ?_
    rintro e w' ⟨rfl, n, rfl⟩
    have HOn := Ro HO.out n
    have hBn : w.heap.size ≤ (wr.drewN n).heap.size := HB.out.size
    have HBn := Lh (Ae HB.out n)
    generalize wr.drewN n = wn at *
    go_wp2_with (at_builtin; refine wpList_append_own _ rfl _ _ 66 rfl w.heap.size 5 i0 (.int .u8 0) 1 1 Tryz.underlying66 hi hz0 hz1 hz2 rfl (by decide) _ ((((us s).take k).map nr1).map UInt8.ofNat).length (Lib.byteCells ((((us s).take k).map nr1).map UInt8.ofNat)) rfl (World.ownsRow.alloc (w := wn) HOn _) ⟨wn.heap.size, 0, none⟩ 1 1 [.int .u8 1] rfl rfl ?c1 ?c2 ?c3 ?c4 ?c5 ?_)
    case c1 => exact (cell_one_new _ _ _)
    case c2 => simp [Value.oneCell']
    case c3 => rw [List.length_map, List.length_map, List.length_take]; have := HS.out; unfold maxLen; omega
    case c4 => rw [List.length_map, List.length_map, List.length_take]; have := HS.out; omega
    case c5 => simp; omega
    intro v' w2 hown hgr _
    have HO2 := Lh (KEY.out v' w2 (by simpa using hown))
    have HB2 := Lh (HBn.out.trans (((Below.refl _ _).alloc hBn _).grown hgr (by simp; omega) (fun j hj => (HOn.lt j hj).1)))
    clear hown hgr
    go_wp2
    exact ⟨⟨k + 1, by go_num, by omega, HO2, HB2⟩, by simp [intOf]; omega⟩
   ·have t1 : decide ((127 : Int) < (u : Int)) = false := decide_eq_false (by omega)
    have e0 : nr1 u = u := if_neg hb
    rw [e0] at KEY
    have k1 : IntKind.u8.wrap (u : Int) = (u : Int) := IntWalk.u8_in _ (by omega)
    go_wp2_with fail
    refine Sm (C1.out _) ?_
    go_wp2_with fail
    refine C2k.out.mono ?_
    rintro e w' ⟨rfl, n, rfl⟩
    have HOn := Ro HO.out n
    have hBn : w.heap.size ≤ (wr.drewN n).heap.size := HB.out.size
    have HBn := Lh (Ae HB.out n)
    generalize wr.drewN n = wn at *
    go_wp2_with (at_builtin; refine wpList_append_own _ rfl _ _ 66 rfl w.heap.size 5 i0 (.int .u8 0) 1 1 Tryz.underlying66 hi hz0 hz1 hz2 rfl (by decide) _ ((((us s).take k).map nr1).map UInt8.ofNat).length (Lib.byteCells ((((us s).take k).map nr1).map UInt8.ofNat)) rfl (World.ownsRow.alloc (w := wn) HOn _) ⟨wn.heap.size, 0, none⟩ 1 1 [.int .u8 (u : Nat)] rfl rfl ?c1 ?c2 ?c3 ?c4 ?c5 ?_)
    case c1 => exact (cell_one_new _ _ _)
    case c2 => simp [Value.oneCell']
    case c3 => rw [List.length_map, List.length_map, List.length_take]; have := HS.out; unfold maxLen; omega
    case c4 => rw [List.length_map, List.length_map, List.length_take]; have := HS.out; omega
    case c5 => simp; omega
    intro v' w2 hown hgr _
    have HO2 := Lh (KEY.out v' w2 (by simpa using hown))
    have HB2 := Lh (HBn.out.trans (((Below.refl _ _).alloc hBn _).grown hgr (by simp; omega) (fun j hj => (HOn.lt j hj).1)))
    clear hown hgr
    go_wp2
    exact ⟨⟨k + 1, by go_num, by omega, HO2, HB2⟩, by simp [intOf]; omega⟩
  ·obtain ⟨T, hT⟩ : ∃ T, (((us s).take k).map nr1).map UInt8.ofNat = T := ⟨_, rfl⟩
   have hcv := Ob HO.out
   rw [hT] at hcv
   have HZ := Lh (show (⟨T.toArray⟩ : ByteArray) = Ab (nrw 1 (us s)) from by
    rw [← hT, show (us s).take k = us s by rw [show k = ln s by omega, Me]]
    rfl)
   clear hT HO
   go_wp2_with fail
   refine Sm (C1.out _) ?_
   go_wp2
   go_ret
   exact ⟨by rw [← HZ.out]; rfl, HB.out⟩
theorem Abo (c : Nat) (w : World) : Cq 140 #[.int .u8 c] (.bool (Bw c)) w := by
 by_cases h1 : 48 ≤ c
 ·by_cases h2 : c ≤ 57
  ·have t1 : decide ((48 : Int) ≤ (c : Int)) = true := decide_eq_true (by omega)
   have t2 : decide ((c : Int) ≤ 57) = true := decide_eq_true (by omega)
   rw [Bu.2 ⟨h1, h2⟩]
   clear h1 h2
   go_enter Tryz.func140, Tryz.ntmps140
   go_wp2
   go_ret
   exact ⟨rfl, rfl⟩
  ·have t1 : decide ((48 : Int) ≤ (c : Int)) = true := decide_eq_true (by omega)
   have t2 : decide ((c : Int) ≤ 57) = false := decide_eq_false (by omega)
   rw [Yw.2 (fun h => h2 h.2)]
   clear h1 h2
   go_enter Tryz.func140, Tryz.ntmps140
   go_wp2
   go_ret
   exact ⟨rfl, rfl⟩
 ·have t1 : decide ((48 : Int) ≤ (c : Int)) = false := decide_eq_false (by omega)
  rw [Yw.2 (fun h => h1 h.1)]
  clear h1
  go_enter Tryz.func140, Tryz.ntmps140
  go_wp2
  go_ret
  exact ⟨rfl, rfl⟩
end
section
theorem Aku : bln 10 = 4 := by decide
theorem Gm (n : Nat) (w : World) (hn : n ≤ 3000) : Cp 196 #[.int .i64 n] w (NRet (10 ^ n) w) := by
 have hn1 : (n : Int) ≤ 3000 := by omega
 have N0 := Lh (NV.lit w 1 (by omega) (by omega))
 have B0 := Lh (show Below w.heap.size w (w.alloc (.cells #[.int .u32 1] 129)) from (Below.refl _ _).alloc (Nat.le_refl _) _)
 go_enter Tryz.func196, Tryz.ntmps196
 go_wp2
 go_loopw [3, 4] (fun v i wr => ∃ (k : Nat) (A : Option Addr) (m c : Nat), i = .int .i64 k ∧ k ≤ n ∧ v = .slice A m c ∧ Hid (NV wr A m c (10 ^ k)) ∧ Hid (Below w.heap.size w wr)) (fun _ i _ => n - (intOf i).toNat)
 case atStart => exact ⟨0, _, _, _, rfl, Nat.zero_le _, rfl, N0, B0⟩
 case round =>
  obtain ⟨k, A, m, c, rfl, hk, rfl, HV, HB⟩ := hrel
  by_cases hlt : k < n
  ·have hlt' : (k : Int) < (n : Int) := by omega
   have hb := Ek k
   have b1 : Below wr.heap.size wr (wr.alloc (.cells #[.int .u32 10] 129)) := (Below.refl _ _).alloc (Nat.le_refl _) _
   have C1 := Lh (Gr (HV.out.step b1) (NV.lit wr 10 (by omega) (by omega)) (by omega) (by rw [Aku]; omega))
   have HB1 := Lh (Aa HB.out b1)
   rw [← Nat.pow_succ] at C1
   clear hb b1
   go_wp2_with fail
   refine C1.out.mono ?_
   rintro e w2 ⟨A2, m2, c2, rfl, g2, b2⟩
   have G2 := Lh g2
   have HB2 := Lh (Aa HB1.out b2)
   clear g2 b2
   go_wp2
   exact ⟨⟨k + 1, A2, m2, c2, by go_num, by omega, rfl, G2, HB2⟩, by simp [intOf]; omega⟩
  ·have HZ := Lh (show k = n by omega)
   go_wp2
   go_ret
   exact ⟨A, m, c, rfl, by rw [← HZ.out]; exact HV.out, HB.out⟩
theorem Sj (l : List Nat) (k : Nat) (h : k < l.length) : l.drop k = l[k] :: l.drop (k + 1) := List.drop_eq_getElem_cons h
theorem Aej {c : Nat} {t : List Nat} (h : Bw c = true) : Ag (c :: t) = c :: Ag t := List.takeWhile_cons_of_pos h
theorem Ajn {c : Nat} {t : List Nat} (h : Bw c = false) : Ag (c :: t) = [] := List.takeWhile_cons_of_neg (by rw [h]; simp)
theorem Om (s : ByteArray) (at' : Nat) (w : World) (hs : s.size ≤ 140737488355328) (ha : at' ≤ 140737488355328) :
  Cq 110 #[.string s, .int .i64 at'] (.int .i64 ((Ag ((bl s).drop at')).length : Nat)) w := by
 have h1 : (s.size : Int) ≤ 140737488355328 := by omega
 have h2 : (at' : Int) ≤ 140737488355328 := by omega
 have C1 := Lh (fun c W => Abo c W)
 obtain ⟨R, hR⟩ : ∃ R, (Ag ((bl s).drop at')).length = R := ⟨_, rfl⟩
 rw [hR]
 have HR := Lh hR
 have HL := Lh (Bx s)
 clear hs ha hR
 go_enter Tryz.func110, Tryz.ntmps110
 go_wp2
 go_loopw [5] (fun i wr => ∃ j : Nat, i = .int .i64 j ∧ Hid (R = j + (Ag ((bl s).drop (at' + j))).length ∧ (j = 0 ∨ at' + j ≤ s.size)) ∧ w = wr) (fun i _ => s.size - (intOf i).toNat)
 case atStart => exact ⟨0, rfl, Lh ⟨by rw [Nat.add_zero, Nat.zero_add, HR.out], Or.inl rfl⟩, rfl⟩
 case round =>
  obtain ⟨j, rfl, HJ, rfl⟩ := hrel
  have hj : (j : Int) ≤ 140737488355328 := by rcases HJ.out.2 with h | h <;> omega
  have k1 : IntKind.i64.wrap ((at' : Int) + (j : Int)) = (at' : Int) + (j : Int) := IntWalk.i64_in _ (by omega)
  by_cases hlt : at' + j < s.size
  ·obtain ⟨B, hB⟩ : ∃ B : Nat, (s[at' + j]'hlt).toNat = B := ⟨_, rfl⟩
   have hll : at' + j < (bl s).length := by rw [HL.out]; exact hlt
   have hget : (bl s)[at' + j] = B := by
    have := De s (at' + j) hlt
    rw [List.getElem?_eq_getElem hll, hB] at this
    exact Option.some.inj this
   have hd := Sj (bl s) (at' + j) hll
   rw [hget] at hd
   have a3 : ((s[at' + j]'hlt).toNat : Int) = (B : Int) := by rw [hB]
   have t0 : decide ((at' : Int) + (j : Int) < (s.size : Int)) = true := decide_eq_true (by omega)
   have a1 : (0 : Int) ≤ (at' : Int) + (j : Int) := by omega
   have a2 : (at' : Int) + (j : Int) < (s.size : Int) := by omega
   have a4 : ((at' : Int) + (j : Int)).toNat = at' + j := by omega
   have C2 := Lh (C1.out B)
   cases hg : Bw B
   ·rw [hg] at C2
    have HE := Lh (show R = j from by have := HJ.out.1; rw [hd, Ajn hg] at this; exact this)
    clear hget hd hB hg hll
    go_wp2_with fail
    refine Sm (C2.out _) ?_
    go_wp2
    go_ret
    exact ⟨by rw [HE.out]; rfl, rfl⟩
   ·rw [hg] at C2
    have HE := Lh (show R = (j + 1) + (Ag ((bl s).drop (at' + (j + 1)))).length ∧ (j + 1 = 0 ∨ at' + (j + 1) ≤ s.size) from by
     have := HJ.out.1
     rw [hd, Aej hg, List.length_cons] at this
     exact ⟨by rw [← Nat.add_assoc]; omega, Or.inr (by omega)⟩)
    clear hget hd hB hg hll
    go_wp2_with fail
    refine Sm (C2.out _) ?_
    go_wp2
    exact ⟨⟨j + 1, by go_num, HE, trivial⟩, by simp [intOf]; omega⟩
  ·have HE := Lh (show R = j from by
    have := HJ.out.1
    rw [List.drop_eq_nil_iff.2 (by rw [HL.out]; omega)] at this
    exact this)
   have t0 : decide ((at' : Int) + (j : Int) < (s.size : Int)) = false := decide_eq_false (by omega)
   go_wp2
   go_ret
   exact ⟨by rw [HE.out]; rfl, rfl⟩
end
section
theorem Aga (s : ByteArray) (K N : Nat) (X : Int) (w : World) (hs : s.size ≤ 281474976710656) (hK : K ≤ s.size) (hN : s.size - K = N)
  (Z1 : Hid (∀ k (h : k < s.size), k < K → (s[k]'h).toNat = 48)) (Z2 : Hid (∀ h : K < s.size, (s[K]'h).toNat ≠ 48))
  (hN0 : N = 0) :
  Ct 141 #[.string s, .int .i64 X] (.float .f64 0) w := by
 have h1 : (s.size : Int) ≤ 281474976710656 := by omega
 have HN := Lh hN
 have HK := Lh hK
 subst hN0
 clear hs hK hN
 go_enter Tryz.func141, Tryz.ntmps141
 go_wp2
 go_loopw [5] (fun i wr => ∃ k : Nat, i = .int .i64 k ∧ k ≤ K ∧ w = wr) (fun i _ => K - (intOf i).toNat)
 case atStart => exact ⟨0, rfl, Nat.zero_le _, rfl⟩
 case round =>
  obtain ⟨k, rfl, hk, rfl⟩ := hrel
  have hk2 := HK.out
  by_cases hlt : k < K
  ·have hks : k < s.size := by omega
   have e0 : ((s[k]'hks).toNat : Int) = 48 := by rw [Z1.out k hks hlt]; rfl
   have a2 : (k : Int) < (s.size : Int) := by omega
   have a1 : (0 : Int) ≤ (k : Int) := by omega
   clear hk2
   go_wp2
   exact ⟨⟨k + 1, by go_num, by omega, trivial⟩, by simp [intOf]; omega⟩
  ·obtain rfl : k = K := by omega
   have a2 : (s.size : Int) = (k : Int) := by have := HN.out; omega
   have a3 : (k : Int) ≤ (s.size : Int) := by omega
   have a1 : (0 : Int) ≤ (k : Int) := by omega
   have a4 : ((s.size - k : Nat) : Int) = 0 := by rw [HN.out]; rfl
   have t1 : decide ((k : Int) < (s.size : Int)) = false := decide_eq_false (by omega)
   clear hk2 a2
   go_wp2
   go_ret
   exact ⟨rfl, Below.refl _ _⟩
theorem Ad4 (s : ByteArray) (K N : Nat) (X P : Int) (w : World) (hs : s.size ≤ 281474976710656) (hK : K ≤ s.size) (hN : s.size - K = N)
  (Z1 : Hid (∀ k (h : k < s.size), k < K → (s[k]'h).toNat = 48)) (Z2 : Hid (∀ h : K < s.size, (s[K]'h).toNat ≠ 48))
  (hN0 : 0 < N) (p1 : wrap64 ((N : Int) + X) = P) (t0 : ((N : Int) == 0) = false) (t1 : decide (400 < P) = true) :
  Ct 141 #[.string s, .int .i64 X] (.float .f64 9218868437227405312) w := by
 have h1 : (s.size : Int) ≤ 281474976710656 := by omega
 have HN := Lh hN
 have HK := Lh hK
 have HN0 := Lh hN0
 clear hs hK hN hN0
 go_enter Tryz.func141, Tryz.ntmps141
 go_wp2
 go_loopw [5] (fun i wr => ∃ k : Nat, i = .int .i64 k ∧ k ≤ K ∧ w = wr) (fun i _ => K - (intOf i).toNat)
 case atStart => exact ⟨0, rfl, Nat.zero_le _, rfl⟩
 case round =>
  obtain ⟨k, rfl, hk, rfl⟩ := hrel
  have hk2 := HK.out
  by_cases hlt : k < K
  ·have hks : k < s.size := by omega
   have e0 : ((s[k]'hks).toNat : Int) = 48 := by rw [Z1.out k hks hlt]; rfl
   have a2 : (k : Int) < (s.size : Int) := by omega
   have a1 : (0 : Int) ≤ (k : Int) := by omega
   clear hk2
   go_wp2
   exact ⟨⟨k + 1, by go_num, by omega, trivial⟩, by simp [intOf]; omega⟩
  ·obtain rfl : k = K := by omega
   have hz : k < s.size := by have := HN.out; have := HN0.out; omega
   obtain ⟨B, hB⟩ : ∃ B : Nat, (s[k]'hz).toNat = B := ⟨_, rfl⟩
   have hB48 := Z2.out hz
   rw [hB] at hB48
   have e0 : ((s[k]'hz).toNat : Int) = (B : Int) := by rw [hB]
   have e1 : ((B : Int) == 48) = false := by rw [beq_eq_false_iff_ne]; omega
   have a2 : (k : Int) < (s.size : Int) := by omega
   have a1 : (0 : Int) ≤ (k : Int) := by omega
   have a3 : (k : Int) ≤ (s.size : Int) := by omega
   have a4 : ((s.size - k : Nat) : Int) = (N : Int) := by rw [HN.out]
   clear hk2 hB hB48
   have C3 := Lh (fun W => Dy W)
   go_wp2_with fail
   refine Sm (C3.out _) ?_
   go_wp2
   go_ret
   exact ⟨rfl, Below.refl _ _⟩
theorem Aig (s : ByteArray) (K N : Nat) (X P : Int) (w : World) (hs : s.size ≤ 281474976710656) (hK : K ≤ s.size) (hN : s.size - K = N)
  (Z1 : Hid (∀ k (h : k < s.size), k < K → (s[k]'h).toNat = 48)) (Z2 : Hid (∀ h : K < s.size, (s[K]'h).toNat ≠ 48))
  (hN0 : 0 < N) (p1 : wrap64 ((N : Int) + X) = P) (t0 : ((N : Int) == 0) = false) (t1 : decide (400 < P) = false) (t2 : decide (P < -400) = true) :
  Ct 141 #[.string s, .int .i64 X] (.float .f64 0) w := by
 have h1 : (s.size : Int) ≤ 281474976710656 := by omega
 have HN := Lh hN
 have HK := Lh hK
 have HN0 := Lh hN0
 clear hs hK hN hN0
 go_enter Tryz.func141, Tryz.ntmps141
 go_wp2
 go_loopw [5] (fun i wr => ∃ k : Nat, i = .int .i64 k ∧ k ≤ K ∧ w = wr) (fun i _ => K - (intOf i).toNat)
 case atStart => exact ⟨0, rfl, Nat.zero_le _, rfl⟩
 case round =>
  obtain ⟨k, rfl, hk, rfl⟩ := hrel
  have hk2 := HK.out
  by_cases hlt : k < K
  ·have hks : k < s.size := by omega
   have e0 : ((s[k]'hks).toNat : Int) = 48 := by rw [Z1.out k hks hlt]; rfl
   have a2 : (k : Int) < (s.size : Int) := by omega
   have a1 : (0 : Int) ≤ (k : Int) := by omega
   clear hk2
   go_wp2
   exact ⟨⟨k + 1, by go_num, by omega, trivial⟩, by simp [intOf]; omega⟩
  ·obtain rfl : k = K := by omega
   have hz : k < s.size := by have := HN.out; have := HN0.out; omega
   obtain ⟨B, hB⟩ : ∃ B : Nat, (s[k]'hz).toNat = B := ⟨_, rfl⟩
   have hB48 := Z2.out hz
   rw [hB] at hB48
   have e0 : ((s[k]'hz).toNat : Int) = (B : Int) := by rw [hB]
   have e1 : ((B : Int) == 48) = false := by rw [beq_eq_false_iff_ne]; omega
   have a2 : (k : Int) < (s.size : Int) := by omega
   have a1 : (0 : Int) ≤ (k : Int) := by omega
   have a3 : (k : Int) ≤ (s.size : Int) := by omega
   have a4 : ((s.size - k : Nat) : Int) = (N : Int) := by rw [HN.out]
   clear hk2 hB hB48
   go_wp2
   go_ret
   exact ⟨rfl, Below.refl _ _⟩
theorem Od (s : ByteArray) (K N : Nat) (X P : Int) (m F : Nat) (D M : Nat) (w : World) (hs : s.size ≤ 281474976710656) (hK : K ≤ s.size) (hN : s.size - K = N)
  (Z1 : Hid (∀ k (h : k < s.size), k < K → (s[k]'h).toNat = 48)) (Z2 : Hid (∀ h : K < s.size, (s[K]'h).toNat ≠ 48))
  (hN0 : 0 < N) (p1 : wrap64 ((N : Int) + X) = P) (t0 : ((N : Int) == 0) = false) (t1 : decide (400 < P) = false) (t2 : decide (P < -400) = false) (t3 : decide (820 < (N : Int)) = false)
  (C3 : Hid (∀ W, Cp 195 #[.string (s.extract K s.size), .int .i64 10] W (NOk m W)))
  (C4 : Hid (∀ W, Cp 196 #[.int .i64 X] W (NRet D W)))
  (C5 : Hid (∀ W A1 n1 c1 A2 n2 c2, NV W A1 n1 c1 m → NV W A2 n2 c2 D → Cp 138 #[.slice A1 n1 c1, .slice A2 n2 c2] W (NRet M W)))
  (C6 : Hid (∀ W A1 n1 c1, NV W A1 n1 c1 M → Ct 139 #[.slice A1 n1 c1, .int .i64 0] (.float .f64 F) W))
  (u0 : decide (0 ≤ X) = true) :
  Ct 141 #[.string s, .int .i64 X] (.float .f64 F) w := by
 have h1 : (s.size : Int) ≤ 281474976710656 := by omega
 have HN := Lh hN
 have HK := Lh hK
 have HN0 := Lh hN0
 clear hs hK hN hN0
 go_enter Tryz.func141, Tryz.ntmps141
 go_wp2
 go_loopw [5] (fun i wr => ∃ k : Nat, i = .int .i64 k ∧ k ≤ K ∧ w = wr) (fun i _ => K - (intOf i).toNat)
 case atStart => exact ⟨0, rfl, Nat.zero_le _, rfl⟩
 case round =>
  obtain ⟨k, rfl, hk, rfl⟩ := hrel
  have hk2 := HK.out
  by_cases hlt : k < K
  ·have hks : k < s.size := by omega
   have e0 : ((s[k]'hks).toNat : Int) = 48 := by rw [Z1.out k hks hlt]; rfl
   have a2 : (k : Int) < (s.size : Int) := by omega
   have a1 : (0 : Int) ≤ (k : Int) := by omega
   clear hk2
   go_wp2
   exact ⟨⟨k + 1, by go_num, by omega, trivial⟩, by simp [intOf]; omega⟩
  ·obtain rfl : k = K := by omega
   have hz : k < s.size := by have := HN.out; have := HN0.out; omega
   obtain ⟨B, hB⟩ : ∃ B : Nat, (s[k]'hz).toNat = B := ⟨_, rfl⟩
   have hB48 := Z2.out hz
   rw [hB] at hB48
   have e0 : ((s[k]'hz).toNat : Int) = (B : Int) := by rw [hB]
   have e1 : ((B : Int) == 48) = false := by rw [beq_eq_false_iff_ne]; omega
   have a2 : (k : Int) < (s.size : Int) := by omega
   have a1 : (0 : Int) ≤ (k : Int) := by omega
   have a3 : (k : Int) ≤ (s.size : Int) := by omega
   have a4 : ((s.size - k : Nat) : Int) = (N : Int) := by rw [HN.out]
   clear hk2 hB hB48
   go_wp2_with fail
   refine (C3.out _).mono ?_
   rintro e w1 ⟨A1, n1, c1, rfl, g1, b1⟩
   have G1 := Lh g1
   have B1 := Lh b1
   clear g1 b1
   go_wp2_with fail
   refine (C4.out _).mono ?_
   rintro e w2 ⟨A2, n2, c2, rfl, g2, b2⟩
   have G2 := Lh g2
   have G1a := Lh (G1.out.step b2)
   have B2 := Lh (Aa B1.out b2)
   clear g2 b2
   go_wp2_with fail
   refine (C5.out _ _ _ _ _ _ _ G1a.out G2.out).mono ?_
   rintro e w3 ⟨A3, n3, c3, rfl, g3, b3⟩
   have G3 := Lh g3
   have B3 := Lh (Aa B2.out b3)
   clear g3 b3
   go_wp2_with fail
   refine Bm (C6.out _ _ _ _ G3.out) fun w4 b4 => ?_
   have B4 := Lh (Aa B3.out b4)
   clear b4
   go_wp2
   go_ret
   exact ⟨rfl, B4.out⟩
theorem M9 (s : ByteArray) (K N : Nat) (X P : Int) (m F : Nat) (D M Q bd ba : Nat) (x1 up x2 Y U : Int) (w : World) (hs : s.size ≤ 281474976710656) (hK : K ≤ s.size) (hN : s.size - K = N)
  (Z1 : Hid (∀ k (h : k < s.size), k < K → (s[k]'h).toNat = 48)) (Z2 : Hid (∀ h : K < s.size, (s[K]'h).toNat ≠ 48))
  (hN0 : 0 < N) (p1 : wrap64 ((N : Int) + X) = P) (t0 : ((N : Int) == 0) = false) (t1 : decide (400 < P) = false) (t2 : decide (P < -400) = false) (t3 : decide (820 < (N : Int)) = false)
  (C3 : Hid (∀ W, Cp 195 #[.string (s.extract K s.size), .int .i64 10] W (NOk m W)))
  (C4 : Hid (∀ W, Cp 196 #[.int .i64 (-X)] W (NRet D W)))
  (C5 : Hid (∀ W A1 n1 c1, NV W A1 n1 c1 D → Ct 193 #[.slice A1 n1 c1] (.int .i64 (bd : Nat)) W))
  (C6 : Hid (∀ W A1 n1 c1, NV W A1 n1 c1 m → Ct 193 #[.slice A1 n1 c1] (.int .i64 (ba : Nat)) W))
  (C7 : Hid (∀ W A1 n1 c1, NV W A1 n1 c1 m → Cp 157 #[.slice A1 n1 c1, .int .i64 U] W (NRet M W)))
  (C8 : Hid (∀ W A1 n1 c1 A2 n2 c2, NV W A1 n1 c1 M → NV W A2 n2 c2 D → Cp 155 #[.slice A1 n1 c1, .slice A2 n2 c2] W (Qd M D W)))
  (C9 : Hid (∀ W A1 n1 c1, NV W A1 n1 c1 (M / D) → Cp 157 #[.slice A1 n1 c1, .int .i64 1] W (NRet Q W)))
  (C11 : Hid (∀ W A1 n1 c1, NV W A1 n1 c1 Q → Ct 139 #[.slice A1 n1 c1, .int .i64 Y] (.float .f64 F) W))
  (hrem : M % D = 0)
  (u0 : decide (0 ≤ X) = false) (u1 : wrap64 (-X) = -X) (u2 : wrap64 ((bd : Int) - (ba : Int)) = x1) (u3 : wrap64 (x1 + 70) = up) (hu : (decide (up < 0) = false ∧ U = up ∧ wrap64 (-up) = x2 ∧ wrap64 (x2 - 1) = Y) ∨ (decide (up < 0) = true ∧ U = 0 ∧ Y = -1)) :
  Ct 141 #[.string s, .int .i64 X] (.float .f64 F) w := by
 have h1 : (s.size : Int) ≤ 281474976710656 := by omega
 have HN := Lh hN
 have HK := Lh hK
 have HN0 := Lh hN0
 have HREM := Lh hrem
 have HUW := Lh hu
 clear hu hs hK hN hN0 hrem
 go_enter Tryz.func141, Tryz.ntmps141
 go_wp2
 go_loopw [5] (fun i wr => ∃ k : Nat, i = .int .i64 k ∧ k ≤ K ∧ w = wr) (fun i _ => K - (intOf i).toNat)
 case atStart => exact ⟨0, rfl, Nat.zero_le _, rfl⟩
 case round =>
  obtain ⟨k, rfl, hk, rfl⟩ := hrel
  have hk2 := HK.out
  by_cases hlt : k < K
  ·have hks : k < s.size := by omega
   have e0 : ((s[k]'hks).toNat : Int) = 48 := by rw [Z1.out k hks hlt]; rfl
   have a2 : (k : Int) < (s.size : Int) := by omega
   have a1 : (0 : Int) ≤ (k : Int) := by omega
   clear hk2
   go_wp2
   exact ⟨⟨k + 1, by go_num, by omega, trivial⟩, by simp [intOf]; omega⟩
  ·obtain rfl : k = K := by omega
   have hz : k < s.size := by have := HN.out; have := HN0.out; omega
   obtain ⟨B, hB⟩ : ∃ B : Nat, (s[k]'hz).toNat = B := ⟨_, rfl⟩
   have hB48 := Z2.out hz
   rw [hB] at hB48
   have e0 : ((s[k]'hz).toNat : Int) = (B : Int) := by rw [hB]
   have e1 : ((B : Int) == 48) = false := by rw [beq_eq_false_iff_ne]; omega
   have a2 : (k : Int) < (s.size : Int) := by omega
   have a1 : (0 : Int) ≤ (k : Int) := by omega
   have a3 : (k : Int) ≤ (s.size : Int) := by omega
   have a4 : ((s.size - k : Nat) : Int) = (N : Int) := by rw [HN.out]
   clear hk2 hB hB48
   rcases HUW.out with ⟨u4, rfl, u5, u6⟩ | ⟨u4, rfl, rfl⟩
   all_goals
    go_wp2_with fail
    refine (C3.out _).mono ?_
    rintro e w1 ⟨A1, n1, c1, rfl, g1, b1⟩
    have G1 := Lh g1
    have B1 := Lh b1
    clear g1 b1
    go_wp2_with fail
    refine (C4.out _).mono ?_
    rintro e w2 ⟨A2, n2, c2, rfl, g2, b2⟩
    have G2 := Lh g2
    have G1a := Lh (G1.out.step b2)
    have B2 := Lh (Aa B1.out b2)
    clear g2 b2
    go_wp2_with fail
    refine Bm (C5.out _ _ _ _ G2.out) fun w3 b3 => ?_
    have G2a := Lh (G2.out.step b3)
    have G1b := Lh (G1a.out.step b3)
    have B3 := Lh (Aa B2.out b3)
    clear b3
    go_wp2_with fail
    refine Bm (C6.out _ _ _ _ G1b.out) fun w4 b4 => ?_
    have G2b := Lh (G2a.out.step b4)
    have G1c := Lh (G1b.out.step b4)
    have B4 := Lh (Aa B3.out b4)
    clear b4
    go_wp2_with fail
    refine (C7.out _ _ _ _ G1c.out).mono ?_
    rintro e w5 ⟨A5, n5, c5, rfl, g5, b5⟩
    have G5 := Lh g5
    have G25 := Lh (G2b.out.step b5)
    have B5 := Lh (Aa B4.out b5)
    clear g5 b5
    go_wp2_with fail
    refine (C8.out _ _ _ _ _ _ _ G5.out G25.out).mono ?_
    rintro e w6 ⟨A6, n6, c6, A7, n7, c7, rfl, g6, g7, b6⟩
    have G6 := Lh g6
    have B6 := Lh (Aa B5.out b6)
    obtain rfl : n7 = 0 := by
     have h1 := g7.len
     rw [HREM.out] at h1
     exact h1.symm
    clear g6 g7 b6
    go_wp2_with fail
    refine (C9.out _ _ _ _ G6.out).mono ?_
    rintro e w7 ⟨A8, n8, c8, rfl, g8, b7⟩
    have G8 := Lh g8
    have B7 := Lh (Aa B6.out b7)
    clear g8 b7
    go_wp2_with fail
    refine Bm (C11.out _ _ _ _ G8.out) fun w9 b9 => ?_
    have B9 := Lh (Aa B7.out b9)
    clear b9
    go_wp2
    go_ret
    exact ⟨rfl, B9.out⟩
theorem Ms (s : ByteArray) (K N : Nat) (X P : Int) (m F : Nat) (D M Q Q2 bd ba : Nat) (x1 up x2 Y U : Int) (w : World) (hs : s.size ≤ 281474976710656) (hK : K ≤ s.size) (hN : s.size - K = N)
  (Z1 : Hid (∀ k (h : k < s.size), k < K → (s[k]'h).toNat = 48)) (Z2 : Hid (∀ h : K < s.size, (s[K]'h).toNat ≠ 48))
  (hN0 : 0 < N) (p1 : wrap64 ((N : Int) + X) = P) (t0 : ((N : Int) == 0) = false) (t1 : decide (400 < P) = false) (t2 : decide (P < -400) = false) (t3 : decide (820 < (N : Int)) = false)
  (C3 : Hid (∀ W, Cp 195 #[.string (s.extract K s.size), .int .i64 10] W (NOk m W)))
  (C4 : Hid (∀ W, Cp 196 #[.int .i64 (-X)] W (NRet D W)))
  (C5 : Hid (∀ W A1 n1 c1, NV W A1 n1 c1 D → Ct 193 #[.slice A1 n1 c1] (.int .i64 (bd : Nat)) W))
  (C6 : Hid (∀ W A1 n1 c1, NV W A1 n1 c1 m → Ct 193 #[.slice A1 n1 c1] (.int .i64 (ba : Nat)) W))
  (C7 : Hid (∀ W A1 n1 c1, NV W A1 n1 c1 m → Cp 157 #[.slice A1 n1 c1, .int .i64 U] W (NRet M W)))
  (C8 : Hid (∀ W A1 n1 c1 A2 n2 c2, NV W A1 n1 c1 M → NV W A2 n2 c2 D → Cp 155 #[.slice A1 n1 c1, .slice A2 n2 c2] W (Qd M D W)))
  (C9 : Hid (∀ W A1 n1 c1, NV W A1 n1 c1 (M / D) → Cp 157 #[.slice A1 n1 c1, .int .i64 1] W (NRet Q W)))
  (C10 : Hid (∀ W A1 n1 c1 A2 n2 c2, NV W A1 n1 c1 Q → NV W A2 n2 c2 1 → Cp 137 #[.slice A1 n1 c1, .slice A2 n2 c2] W (NRet Q2 W)))
  (C11 : Hid (∀ W A1 n1 c1, NV W A1 n1 c1 Q2 → Ct 139 #[.slice A1 n1 c1, .int .i64 Y] (.float .f64 F) W))
  (hrem : M % D ≠ 0)
  (u0 : decide (0 ≤ X) = false) (u1 : wrap64 (-X) = -X) (u2 : wrap64 ((bd : Int) - (ba : Int)) = x1) (u3 : wrap64 (x1 + 70) = up) (hu : (decide (up < 0) = false ∧ U = up ∧ wrap64 (-up) = x2 ∧ wrap64 (x2 - 1) = Y) ∨ (decide (up < 0) = true ∧ U = 0 ∧ Y = -1)) :
  Ct 141 #[.string s, .int .i64 X] (.float .f64 F) w := by
 have h1 : (s.size : Int) ≤ 281474976710656 := by omega
 have HN := Lh hN
 have HK := Lh hK
 have HN0 := Lh hN0
 have HREM := Lh hrem
 have HUW := Lh hu
 clear hu hs hK hN hN0 hrem
 go_enter Tryz.func141, Tryz.ntmps141
 go_wp2
 go_loopw [5] (fun i wr => ∃ k : Nat, i = .int .i64 k ∧ k ≤ K ∧ w = wr) (fun i _ => K - (intOf i).toNat)
 case atStart => exact ⟨0, rfl, Nat.zero_le _, rfl⟩
 case round =>
  obtain ⟨k, rfl, hk, rfl⟩ := hrel
  have hk2 := HK.out
  by_cases hlt : k < K
  ·have hks : k < s.size := by omega
   have e0 : ((s[k]'hks).toNat : Int) = 48 := by rw [Z1.out k hks hlt]; rfl
   have a2 : (k : Int) < (s.size : Int) := by omega
   have a1 : (0 : Int) ≤ (k : Int) := by omega
   clear hk2
   go_wp2
   exact ⟨⟨k + 1, by go_num, by omega, trivial⟩, by simp [intOf]; omega⟩
  ·obtain rfl : k = K := by omega
   have hz : k < s.size := by have := HN.out; have := HN0.out; omega
   obtain ⟨B, hB⟩ : ∃ B : Nat, (s[k]'hz).toNat = B := ⟨_, rfl⟩
   have hB48 := Z2.out hz
   rw [hB] at hB48
   have e0 : ((s[k]'hz).toNat : Int) = (B : Int) := by rw [hB]
   have e1 : ((B : Int) == 48) = false := by rw [beq_eq_false_iff_ne]; omega
   have a2 : (k : Int) < (s.size : Int) := by omega
   have a1 : (0 : Int) ≤ (k : Int) := by omega
   have a3 : (k : Int) ≤ (s.size : Int) := by omega
   have a4 : ((s.size - k : Nat) : Int) = (N : Int) := by rw [HN.out]
   clear hk2 hB hB48
   rcases HUW.out with ⟨u4, rfl, u5, u6⟩ | ⟨u4, rfl, rfl⟩
   all_goals
    go_wp2_with fail
    refine (C3.out _).mono ?_
    rintro e w1 ⟨A1, n1, c1, rfl, g1, b1⟩
    have G1 := Lh g1
    have B1 := Lh b1
    clear g1 b1
    go_wp2_with fail
    refine (C4.out _).mono ?_
    rintro e w2 ⟨A2, n2, c2, rfl, g2, b2⟩
    have G2 := Lh g2
    have G1a := Lh (G1.out.step b2)
    have B2 := Lh (Aa B1.out b2)
    clear g2 b2
    go_wp2_with fail
    refine Bm (C5.out _ _ _ _ G2.out) fun w3 b3 => ?_
    have G2a := Lh (G2.out.step b3)
    have G1b := Lh (G1a.out.step b3)
    have B3 := Lh (Aa B2.out b3)
    clear b3
    go_wp2_with fail
    refine Bm (C6.out _ _ _ _ G1b.out) fun w4 b4 => ?_
    have G2b := Lh (G2a.out.step b4)
    have G1c := Lh (G1b.out.step b4)
    have B4 := Lh (Aa B3.out b4)
    clear b4
    go_wp2_with fail
    refine (C7.out _ _ _ _ G1c.out).mono ?_
    rintro e w5 ⟨A5, n5, c5, rfl, g5, b5⟩
    have G5 := Lh g5
    have G25 := Lh (G2b.out.step b5)
    have B5 := Lh (Aa B4.out b5)
    clear g5 b5
    go_wp2_with fail
    refine (C8.out _ _ _ _ _ _ _ G5.out G25.out).mono ?_
    rintro e w6 ⟨A6, n6, c6, A7, n7, c7, rfl, g6, g7, b6⟩
    have G6 := Lh g6
    have B6 := Lh (Aa B5.out b6)
    have hn7 : (0 : Int) < (n7 : Int) := by
     have h1 := g7.len
     have h2 : (wds (M % D)) ≠ [] := fun e => HREM.out (by have h3 := Ad (M % D); rw [e] at h3; exact h3.symm)
     have := List.length_pos_iff.2 h2
     omega
    clear g6 g7 b6
    go_wp2_with fail
    refine (C9.out _ _ _ _ G6.out).mono ?_
    rintro e w7 ⟨A8, n8, c8, rfl, g8, b7⟩
    have G8 := Lh g8
    have B7 := Lh (Aa B6.out b7)
    clear g8 b7
    have bl := Lh (show Below w7.heap.size w7 (w7.alloc (.cells #[.int .u32 1] 129)) from (Below.refl _ _).alloc (Nat.le_refl _) _)
    have C10' := Lh (C10.out _ _ _ _ _ _ _ (G8.out.step bl.out) (NV.lit w7 1 (by omega) (by omega)))
    go_wp2_with fail
    refine C10'.out.mono ?_
    rintro e w8 ⟨A9, n9, c9, rfl, g9, b8⟩
    have G9 := Lh g9
    have B8 := Lh (Aa (Aa B7.out bl.out) b8)
    clear g9 b8
    go_wp2_with fail
    refine Bm (C11.out _ _ _ _ G9.out) fun w9 b9 => ?_
    have B9 := Lh (Aa B8.out b9)
    clear b9
    go_wp2
    go_ret
    exact ⟨rfl, B9.out⟩
end
section
theorem Pu (s : ByteArray) (K N : Nat) (X P : Int) (m F : Nat) (D M : Nat) (g : ByteArray) (y1 : Int) (E : Int) (w : World) (hs : s.size ≤ 281474976710656) (hK : K ≤ s.size) (hN : s.size - K = N)
  (Z1 : Hid (∀ k (h : k < s.size), k < K → (s[k]'h).toNat = 48)) (Z2 : Hid (∀ h : K < s.size, (s[K]'h).toNat ≠ 48))
  (hN0 : 0 < N) (p1 : wrap64 ((N : Int) + X) = P) (t0 : ((N : Int) == 0) = false) (t1 : decide (400 < P) = false) (t2 : decide (P < -400) = false) (t3 : decide (820 < (N : Int)) = true)
  (hg : s.extract K s.size = g) (hgN : g.size = N) (hN8 : 820 < N) (hrb : ((bl g).drop 810).any (· != 48) = false)
  (q0 : wrap64 (X + (N : Int)) = y1) (q1 : wrap64 (y1 - 810) = E)
  (C3 : Hid (∀ W, Cp 195 #[.string (g.extract 0 810), .int .i64 10] W (NOk m W)))
  (C4 : Hid (∀ W, Cp 196 #[.int .i64 E] W (NRet D W)))
  (C5 : Hid (∀ W A1 n1 c1 A2 n2 c2, NV W A1 n1 c1 m → NV W A2 n2 c2 D → Cp 138 #[.slice A1 n1 c1, .slice A2 n2 c2] W (NRet M W)))
  (C6 : Hid (∀ W A1 n1 c1, NV W A1 n1 c1 M → Ct 139 #[.slice A1 n1 c1, .int .i64 0] (.float .f64 F) W))
  (u0 : decide (0 ≤ E) = true) :
  Ct 141 #[.string s, .int .i64 X] (.float .f64 F) w := by
 have h1 : (s.size : Int) ≤ 281474976710656 := by omega
 have HN := Lh hN
 have HK := Lh hK
 have HN0 := Lh hN0
 have HG := Lh hg
 have HGN := Lh hgN
 have HN8 := Lh hN8
 have HRB := Lh hrb
 clear hs hK hN hN0 hg hgN hN8 hrb
 go_enter Tryz.func141, Tryz.ntmps141
 go_wp2
 go_loopw [5] (fun i wr => ∃ k : Nat, i = .int .i64 k ∧ k ≤ K ∧ w = wr) (fun i _ => K - (intOf i).toNat)
 case atStart => exact ⟨0, rfl, Nat.zero_le _, rfl⟩
 case round =>
  obtain ⟨k, rfl, hk, rfl⟩ := hrel
  have hk2 := HK.out
  by_cases hlt : k < K
  ·have hks : k < s.size := by omega
   have e0 : ((s[k]'hks).toNat : Int) = 48 := by rw [Z1.out k hks hlt]; rfl
   have a2 : (k : Int) < (s.size : Int) := by omega
   have a1 : (0 : Int) ≤ (k : Int) := by omega
   clear hk2
   go_wp2
   exact ⟨⟨k + 1, by go_num, by omega, trivial⟩, by simp [intOf]; omega⟩
  ·obtain rfl : k = K := by omega
   have hz : k < s.size := by have := HN.out; have := HN0.out; omega
   obtain ⟨B, hB⟩ : ∃ B : Nat, (s[k]'hz).toNat = B := ⟨_, rfl⟩
   have hB48 := Z2.out hz
   rw [hB] at hB48
   have e0 : ((s[k]'hz).toNat : Int) = (B : Int) := by rw [hB]
   have e1 : ((B : Int) == 48) = false := by rw [beq_eq_false_iff_ne]; omega
   have a2 : (k : Int) < (s.size : Int) := by omega
   have a1 : (0 : Int) ≤ (k : Int) := by omega
   have a3 : (k : Int) ≤ (s.size : Int) := by omega
   have a4 : ((s.size - k : Nat) : Int) = (N : Int) := by rw [HN.out]
   clear hk2 hB hB48
   have hext : s.extract k s.size = g := HG.out
   have b4 : (g.size : Int) = (N : Int) := by rw [HGN.out]
   go_wp2
   clear a1 a2 a3 e0 e1 hext hz b4
   go_loopw [6, 7] (fun v i wr => ∃ j : Nat, i = .int .i64 (810 + (j : Int)) ∧ 810 + j ≤ N ∧ v = .bool ((((bl g).drop 810).take j).any (· != 48)) ∧ w = wr) (fun _ i _ => N - (intOf i).toNat)
   case atStart => exact ⟨0, rfl, by have := HN8.out; omega, rfl, rfl⟩
   case round =>
    obtain ⟨j, rfl, hj, rfl, rfl⟩ := hrel
    by_cases hjl : 810 + j < N
    ·have hgs : 810 + j < g.size := by rw [HGN.out]; exact hjl
     obtain ⟨D8, hD8⟩ : ∃ D8 : Nat, (g[810 + j]'hgs).toNat = D8 := ⟨_, rfl⟩
     have hstep : (((bl g).drop 810).take (j + 1)).any (· != 48) = ((((bl g).drop 810).take j).any (· != 48) || (D8 != 48)) := by
      rw [List.take_add_one, List.getElem?_drop, De g (810 + j) hgs, hD8, List.any_append]
      simp
     have b0 : ((810 + (j : Int)) : Int) < (N : Int) := by omega
     have b1 : (0 : Int) ≤ 810 + (j : Int) := by omega
     have b2 : (810 + (j : Int)).toNat = 810 + j := by omega
     have b3 : ((g[810 + j]'hgs).toNat : Int) = (D8 : Int) := by rw [hD8]
     have b4 : (g.size : Int) = (N : Int) := by rw [HGN.out]
     have b5 : 810 + (j : Int) < (g.size : Int) := by omega
     obtain ⟨r, hr⟩ : ∃ r, (((bl g).drop 810).take j).any (· != 48) = r := ⟨_, rfl⟩
     rw [hr] at hstep ⊢
     have HST := Lh hstep
     clear hstep hr hD8
     cases r
     ·cases h48 : (D8 != 48)
      ·have b6 : ((D8 : Int) != 48) = false := by rw [bne_eq_false_iff_eq]; have := bne_eq_false_iff_eq.1 h48; omega
       have HS2 := Lh (show (((bl g).drop 810).take (j + 1)).any (· != 48) = false from by rw [HST.out, h48]; rfl)
       clear h48
       go_wp2
       exact ⟨⟨j + 1, by go_num, by omega, by rw [HS2.out], trivial⟩, by simp [intOf]; omega⟩
      ·have b6 : ((D8 : Int) != 48) = true := by rw [bne_iff_ne]; have := bne_iff_ne.1 h48; omega
       have HS2 := Lh (show (((bl g).drop 810).take (j + 1)).any (· != 48) = true from by rw [HST.out, h48]; rfl)
       clear h48
       go_wp2
       exact ⟨⟨j + 1, by go_num, by omega, by rw [HS2.out], trivial⟩, by simp [intOf]; omega⟩
     ·have HS2 := Lh (show (((bl g).drop 810).take (j + 1)).any (· != 48) = true from by rw [HST.out]; rfl)
      go_wp2
      exact ⟨⟨j + 1, by go_num, by omega, by rw [HS2.out], trivial⟩, by simp [intOf]; omega⟩
    ·have hz2 : (((bl g).drop 810).take j).any (· != 48) = false := by
      rw [List.take_of_length_le (by rw [List.length_drop, Bx, HGN.out]; omega)]
      exact HRB.out
     rw [hz2]
     have b4 : (g.size : Int) = (N : Int) := by rw [HGN.out]
     have b0 : decide (810 + (j : Int) < (N : Int)) = false := decide_eq_false (by omega)
     have b5 : (810 : Int) ≤ (g.size : Int) := by have := HN8.out; omega
     clear hz2
     go_wp2_with fail
     refine (C3.out _).mono ?_
     rintro e w1 ⟨A1, n1, c1, rfl, g1, b1⟩
     have G1 := Lh g1
     have B1 := Lh b1
     clear g1 b1
     go_wp2_with fail
     refine (C4.out _).mono ?_
     rintro e w2 ⟨A2, n2, c2, rfl, g2, b2⟩
     have G2 := Lh g2
     have G1a := Lh (G1.out.step b2)
     have B2 := Lh (Aa B1.out b2)
     clear g2 b2
     go_wp2_with fail
     refine (C5.out _ _ _ _ _ _ _ G1a.out G2.out).mono ?_
     rintro e w3 ⟨A3, n3, c3, rfl, g3, b3⟩
     have G3 := Lh g3
     have B3 := Lh (Aa B2.out b3)
     clear g3 b3
     go_wp2_with fail
     refine Bm (C6.out _ _ _ _ G3.out) fun w4 b4 => ?_
     have B4 := Lh (Aa B3.out b4)
     clear b4
     go_wp2
     go_ret
     exact ⟨rfl, B4.out⟩
theorem Nb (s : ByteArray) (K N : Nat) (X P : Int) (m F : Nat) (D M Q bd ba : Nat) (x1 up x2 Y U : Int) (g : ByteArray) (y1 : Int) (E : Int) (w : World) (hs : s.size ≤ 281474976710656) (hK : K ≤ s.size) (hN : s.size - K = N)
  (Z1 : Hid (∀ k (h : k < s.size), k < K → (s[k]'h).toNat = 48)) (Z2 : Hid (∀ h : K < s.size, (s[K]'h).toNat ≠ 48))
  (hN0 : 0 < N) (p1 : wrap64 ((N : Int) + X) = P) (t0 : ((N : Int) == 0) = false) (t1 : decide (400 < P) = false) (t2 : decide (P < -400) = false) (t3 : decide (820 < (N : Int)) = true)
  (hg : s.extract K s.size = g) (hgN : g.size = N) (hN8 : 820 < N) (hrb : ((bl g).drop 810).any (· != 48) = false)
  (q0 : wrap64 (X + (N : Int)) = y1) (q1 : wrap64 (y1 - 810) = E)
  (C3 : Hid (∀ W, Cp 195 #[.string (g.extract 0 810), .int .i64 10] W (NOk m W)))
  (C4 : Hid (∀ W, Cp 196 #[.int .i64 (-E)] W (NRet D W)))
  (C5 : Hid (∀ W A1 n1 c1, NV W A1 n1 c1 D → Ct 193 #[.slice A1 n1 c1] (.int .i64 (bd : Nat)) W))
  (C6 : Hid (∀ W A1 n1 c1, NV W A1 n1 c1 m → Ct 193 #[.slice A1 n1 c1] (.int .i64 (ba : Nat)) W))
  (C7 : Hid (∀ W A1 n1 c1, NV W A1 n1 c1 m → Cp 157 #[.slice A1 n1 c1, .int .i64 U] W (NRet M W)))
  (C8 : Hid (∀ W A1 n1 c1 A2 n2 c2, NV W A1 n1 c1 M → NV W A2 n2 c2 D → Cp 155 #[.slice A1 n1 c1, .slice A2 n2 c2] W (Qd M D W)))
  (C9 : Hid (∀ W A1 n1 c1, NV W A1 n1 c1 (M / D) → Cp 157 #[.slice A1 n1 c1, .int .i64 1] W (NRet Q W)))
  (C11 : Hid (∀ W A1 n1 c1, NV W A1 n1 c1 Q → Ct 139 #[.slice A1 n1 c1, .int .i64 Y] (.float .f64 F) W))
  (hrem : M % D = 0)
  (u0 : decide (0 ≤ E) = false) (u1 : wrap64 (-E) = -E) (u2 : wrap64 ((bd : Int) - (ba : Int)) = x1) (u3 : wrap64 (x1 + 70) = up) (hu : (decide (up < 0) = false ∧ U = up ∧ wrap64 (-up) = x2 ∧ wrap64 (x2 - 1) = Y) ∨ (decide (up < 0) = true ∧ U = 0 ∧ Y = -1)) :
  Ct 141 #[.string s, .int .i64 X] (.float .f64 F) w := by
 have h1 : (s.size : Int) ≤ 281474976710656 := by omega
 have HN := Lh hN
 have HK := Lh hK
 have HN0 := Lh hN0
 have HREM := Lh hrem
 have HG := Lh hg
 have HGN := Lh hgN
 have HN8 := Lh hN8
 have HRB := Lh hrb
 have HUW := Lh hu
 clear hu hs hK hN hN0 hrem hg hgN hN8 hrb
 go_enter Tryz.func141, Tryz.ntmps141
 go_wp2
 go_loopw [5] (fun i wr => ∃ k : Nat, i = .int .i64 k ∧ k ≤ K ∧ w = wr) (fun i _ => K - (intOf i).toNat)
 case atStart => exact ⟨0, rfl, Nat.zero_le _, rfl⟩
 case round =>
  obtain ⟨k, rfl, hk, rfl⟩ := hrel
  have hk2 := HK.out
  by_cases hlt : k < K
  ·have hks : k < s.size := by omega
   have e0 : ((s[k]'hks).toNat : Int) = 48 := by rw [Z1.out k hks hlt]; rfl
   have a2 : (k : Int) < (s.size : Int) := by omega
   have a1 : (0 : Int) ≤ (k : Int) := by omega
   clear hk2
   go_wp2
   exact ⟨⟨k + 1, by go_num, by omega, trivial⟩, by simp [intOf]; omega⟩
  ·obtain rfl : k = K := by omega
   have hz : k < s.size := by have := HN.out; have := HN0.out; omega
   obtain ⟨B, hB⟩ : ∃ B : Nat, (s[k]'hz).toNat = B := ⟨_, rfl⟩
   have hB48 := Z2.out hz
   rw [hB] at hB48
   have e0 : ((s[k]'hz).toNat : Int) = (B : Int) := by rw [hB]
   have e1 : ((B : Int) == 48) = false := by rw [beq_eq_false_iff_ne]; omega
   have a2 : (k : Int) < (s.size : Int) := by omega
   have a1 : (0 : Int) ≤ (k : Int) := by omega
   have a3 : (k : Int) ≤ (s.size : Int) := by omega
   have a4 : ((s.size - k : Nat) : Int) = (N : Int) := by rw [HN.out]
   clear hk2 hB hB48
   have hext : s.extract k s.size = g := HG.out
   have b4 : (g.size : Int) = (N : Int) := by rw [HGN.out]
   go_wp2
   clear a1 a2 a3 e0 e1 hext hz b4
   go_loopw [6, 7] (fun v i wr => ∃ j : Nat, i = .int .i64 (810 + (j : Int)) ∧ 810 + j ≤ N ∧ v = .bool ((((bl g).drop 810).take j).any (· != 48)) ∧ w = wr) (fun _ i _ => N - (intOf i).toNat)
   case atStart => exact ⟨0, rfl, by have := HN8.out; omega, rfl, rfl⟩
   case round =>
    obtain ⟨j, rfl, hj, rfl, rfl⟩ := hrel
    by_cases hjl : 810 + j < N
    ·have hgs : 810 + j < g.size := by rw [HGN.out]; exact hjl
     obtain ⟨D8, hD8⟩ : ∃ D8 : Nat, (g[810 + j]'hgs).toNat = D8 := ⟨_, rfl⟩
     have hstep : (((bl g).drop 810).take (j + 1)).any (· != 48) = ((((bl g).drop 810).take j).any (· != 48) || (D8 != 48)) := by
      rw [List.take_add_one, List.getElem?_drop, De g (810 + j) hgs, hD8, List.any_append]
      simp
     have b0 : ((810 + (j : Int)) : Int) < (N : Int) := by omega
     have b1 : (0 : Int) ≤ 810 + (j : Int) := by omega
     have b2 : (810 + (j : Int)).toNat = 810 + j := by omega
     have b3 : ((g[810 + j]'hgs).toNat : Int) = (D8 : Int) := by rw [hD8]
     have b4 : (g.size : Int) = (N : Int) := by rw [HGN.out]
     have b5 : 810 + (j : Int) < (g.size : Int) := by omega
     obtain ⟨r, hr⟩ : ∃ r, (((bl g).drop 810).take j).any (· != 48) = r := ⟨_, rfl⟩
     rw [hr] at hstep ⊢
     have HST := Lh hstep
     clear hstep hr hD8
     cases r
     ·cases h48 : (D8 != 48)
      ·have b6 : ((D8 : Int) != 48) = false := by rw [bne_eq_false_iff_eq]; have := bne_eq_false_iff_eq.1 h48; omega
       have HS2 := Lh (show (((bl g).drop 810).take (j + 1)).any (· != 48) = false from by rw [HST.out, h48]; rfl)
       clear h48
       go_wp2
       exact ⟨⟨j + 1, by go_num, by omega, by rw [HS2.out], trivial⟩, by simp [intOf]; omega⟩
      ·have b6 : ((D8 : Int) != 48) = true := by rw [bne_iff_ne]; have := bne_iff_ne.1 h48; omega
       have HS2 := Lh (show (((bl g).drop 810).take (j + 1)).any (· != 48) = true from by rw [HST.out, h48]; rfl)
       clear h48
       go_wp2
       exact ⟨⟨j + 1, by go_num, by omega, by rw [HS2.out], trivial⟩, by simp [intOf]; omega⟩
     ·have HS2 := Lh (show (((bl g).drop 810).take (j + 1)).any (· != 48) = true from by rw [HST.out]; rfl)
      go_wp2
      exact ⟨⟨j + 1, by go_num, by omega, by rw [HS2.out], trivial⟩, by simp [intOf]; omega⟩
    ·have hz2 : (((bl g).drop 810).take j).any (· != 48) = false := by
      rw [List.take_of_length_le (by rw [List.length_drop, Bx, HGN.out]; omega)]
      exact HRB.out
     rw [hz2]
     have b4 : (g.size : Int) = (N : Int) := by rw [HGN.out]
     have b0 : decide (810 + (j : Int) < (N : Int)) = false := decide_eq_false (by omega)
     have b5 : (810 : Int) ≤ (g.size : Int) := by have := HN8.out; omega
     clear hz2
     rcases HUW.out with ⟨u4, rfl, u5, u6⟩ | ⟨u4, rfl, rfl⟩
     all_goals
      go_wp2_with fail
      refine (C3.out _).mono ?_
      rintro e w1 ⟨A1, n1, c1, rfl, g1, b1⟩
      have G1 := Lh g1
      have B1 := Lh b1
      clear g1 b1
      go_wp2_with fail
      refine (C4.out _).mono ?_
      rintro e w2 ⟨A2, n2, c2, rfl, g2, b2⟩
      have G2 := Lh g2
      have G1a := Lh (G1.out.step b2)
      have B2 := Lh (Aa B1.out b2)
      clear g2 b2
      go_wp2_with fail
      refine Bm (C5.out _ _ _ _ G2.out) fun w3 b3 => ?_
      have G2a := Lh (G2.out.step b3)
      have G1b := Lh (G1a.out.step b3)
      have B3 := Lh (Aa B2.out b3)
      clear b3
      go_wp2_with fail
      refine Bm (C6.out _ _ _ _ G1b.out) fun w4 b4 => ?_
      have G2b := Lh (G2a.out.step b4)
      have G1c := Lh (G1b.out.step b4)
      have B4 := Lh (Aa B3.out b4)
      clear b4
      go_wp2_with fail
      refine (C7.out _ _ _ _ G1c.out).mono ?_
      rintro e w5 ⟨A5, n5, c5, rfl, g5, b5⟩
      have G5 := Lh g5
      have G25 := Lh (G2b.out.step b5)
      have B5 := Lh (Aa B4.out b5)
      clear g5 b5
      go_wp2_with fail
      refine (C8.out _ _ _ _ _ _ _ G5.out G25.out).mono ?_
      rintro e w6 ⟨A6, n6, c6, A7, n7, c7, rfl, g6, g7, b6⟩
      have G6 := Lh g6
      have B6 := Lh (Aa B5.out b6)
      obtain rfl : n7 = 0 := by
       have h1 := g7.len
       rw [HREM.out] at h1
       exact h1.symm
      clear g6 g7 b6
      go_wp2_with fail
      refine (C9.out _ _ _ _ G6.out).mono ?_
      rintro e w7 ⟨A8, n8, c8, rfl, g8, b7⟩
      have G8 := Lh g8
      have B7 := Lh (Aa B6.out b7)
      clear g8 b7
      go_wp2_with fail
      refine Bm (C11.out _ _ _ _ G8.out) fun w9 b9 => ?_
      have B9 := Lh (Aa B7.out b9)
      clear b9
      go_wp2
      go_ret
      exact ⟨rfl, B9.out⟩
theorem Mv (s : ByteArray) (K N : Nat) (X P : Int) (m F : Nat) (D M Q Q2 bd ba : Nat) (x1 up x2 Y U : Int) (g : ByteArray) (y1 : Int) (E : Int) (w : World) (hs : s.size ≤ 281474976710656) (hK : K ≤ s.size) (hN : s.size - K = N)
  (Z1 : Hid (∀ k (h : k < s.size), k < K → (s[k]'h).toNat = 48)) (Z2 : Hid (∀ h : K < s.size, (s[K]'h).toNat ≠ 48))
  (hN0 : 0 < N) (p1 : wrap64 ((N : Int) + X) = P) (t0 : ((N : Int) == 0) = false) (t1 : decide (400 < P) = false) (t2 : decide (P < -400) = false) (t3 : decide (820 < (N : Int)) = true)
  (hg : s.extract K s.size = g) (hgN : g.size = N) (hN8 : 820 < N) (hrb : ((bl g).drop 810).any (· != 48) = false)
  (q0 : wrap64 (X + (N : Int)) = y1) (q1 : wrap64 (y1 - 810) = E)
  (C3 : Hid (∀ W, Cp 195 #[.string (g.extract 0 810), .int .i64 10] W (NOk m W)))
  (C4 : Hid (∀ W, Cp 196 #[.int .i64 (-E)] W (NRet D W)))
  (C5 : Hid (∀ W A1 n1 c1, NV W A1 n1 c1 D → Ct 193 #[.slice A1 n1 c1] (.int .i64 (bd : Nat)) W))
  (C6 : Hid (∀ W A1 n1 c1, NV W A1 n1 c1 m → Ct 193 #[.slice A1 n1 c1] (.int .i64 (ba : Nat)) W))
  (C7 : Hid (∀ W A1 n1 c1, NV W A1 n1 c1 m → Cp 157 #[.slice A1 n1 c1, .int .i64 U] W (NRet M W)))
  (C8 : Hid (∀ W A1 n1 c1 A2 n2 c2, NV W A1 n1 c1 M → NV W A2 n2 c2 D → Cp 155 #[.slice A1 n1 c1, .slice A2 n2 c2] W (Qd M D W)))
  (C9 : Hid (∀ W A1 n1 c1, NV W A1 n1 c1 (M / D) → Cp 157 #[.slice A1 n1 c1, .int .i64 1] W (NRet Q W)))
  (C10 : Hid (∀ W A1 n1 c1 A2 n2 c2, NV W A1 n1 c1 Q → NV W A2 n2 c2 1 → Cp 137 #[.slice A1 n1 c1, .slice A2 n2 c2] W (NRet Q2 W)))
  (C11 : Hid (∀ W A1 n1 c1, NV W A1 n1 c1 Q2 → Ct 139 #[.slice A1 n1 c1, .int .i64 Y] (.float .f64 F) W))
  (hrem : M % D ≠ 0)
  (u0 : decide (0 ≤ E) = false) (u1 : wrap64 (-E) = -E) (u2 : wrap64 ((bd : Int) - (ba : Int)) = x1) (u3 : wrap64 (x1 + 70) = up) (hu : (decide (up < 0) = false ∧ U = up ∧ wrap64 (-up) = x2 ∧ wrap64 (x2 - 1) = Y) ∨ (decide (up < 0) = true ∧ U = 0 ∧ Y = -1)) :
  Ct 141 #[.string s, .int .i64 X] (.float .f64 F) w := by
 have h1 : (s.size : Int) ≤ 281474976710656 := by omega
 have HN := Lh hN
 have HK := Lh hK
 have HN0 := Lh hN0
 have HREM := Lh hrem
 have HG := Lh hg
 have HGN := Lh hgN
 have HN8 := Lh hN8
 have HRB := Lh hrb
 have HUW := Lh hu
 clear hu hs hK hN hN0 hrem hg hgN hN8 hrb
 go_enter Tryz.func141, Tryz.ntmps141
 go_wp2
 go_loopw [5] (fun i wr => ∃ k : Nat, i = .int .i64 k ∧ k ≤ K ∧ w = wr) (fun i _ => K - (intOf i).toNat)
 case atStart => exact ⟨0, rfl, Nat.zero_le _, rfl⟩
 case round =>
  obtain ⟨k, rfl, hk, rfl⟩ := hrel
  have hk2 := HK.out
  by_cases hlt : k < K
  ·have hks : k < s.size := by omega
   have e0 : ((s[k]'hks).toNat : Int) = 48 := by rw [Z1.out k hks hlt]; rfl
   have a2 : (k : Int) < (s.size : Int) := by omega
   have a1 : (0 : Int) ≤ (k : Int) := by omega
   clear hk2
   go_wp2
   exact ⟨⟨k + 1, by go_num, by omega, trivial⟩, by simp [intOf]; omega⟩
  ·obtain rfl : k = K := by omega
   have hz : k < s.size := by have := HN.out; have := HN0.out; omega
   obtain ⟨B, hB⟩ : ∃ B : Nat, (s[k]'hz).toNat = B := ⟨_, rfl⟩
   have hB48 := Z2.out hz
   rw [hB] at hB48
   have e0 : ((s[k]'hz).toNat : Int) = (B : Int) := by rw [hB]
   have e1 : ((B : Int) == 48) = false := by rw [beq_eq_false_iff_ne]; omega
   have a2 : (k : Int) < (s.size : Int) := by omega
   have a1 : (0 : Int) ≤ (k : Int) := by omega
   have a3 : (k : Int) ≤ (s.size : Int) := by omega
   have a4 : ((s.size - k : Nat) : Int) = (N : Int) := by rw [HN.out]
   clear hk2 hB hB48
   have hext : s.extract k s.size = g := HG.out
   have b4 : (g.size : Int) = (N : Int) := by rw [HGN.out]
   go_wp2
   clear a1 a2 a3 e0 e1 hext hz b4
   go_loopw [6, 7] (fun v i wr => ∃ j : Nat, i = .int .i64 (810 + (j : Int)) ∧ 810 + j ≤ N ∧ v = .bool ((((bl g).drop 810).take j).any (· != 48)) ∧ w = wr) (fun _ i _ => N - (intOf i).toNat)
   case atStart => exact ⟨0, rfl, by have := HN8.out; omega, rfl, rfl⟩
   case round =>
    obtain ⟨j, rfl, hj, rfl, rfl⟩ := hrel
    by_cases hjl : 810 + j < N
    ·have hgs : 810 + j < g.size := by rw [HGN.out]; exact hjl
     obtain ⟨D8, hD8⟩ : ∃ D8 : Nat, (g[810 + j]'hgs).toNat = D8 := ⟨_, rfl⟩
     have hstep : (((bl g).drop 810).take (j + 1)).any (· != 48) = ((((bl g).drop 810).take j).any (· != 48) || (D8 != 48)) := by
      rw [List.take_add_one, List.getElem?_drop, De g (810 + j) hgs, hD8, List.any_append]
      simp
     have b0 : ((810 + (j : Int)) : Int) < (N : Int) := by omega
     have b1 : (0 : Int) ≤ 810 + (j : Int) := by omega
     have b2 : (810 + (j : Int)).toNat = 810 + j := by omega
     have b3 : ((g[810 + j]'hgs).toNat : Int) = (D8 : Int) := by rw [hD8]
     have b4 : (g.size : Int) = (N : Int) := by rw [HGN.out]
     have b5 : 810 + (j : Int) < (g.size : Int) := by omega
     obtain ⟨r, hr⟩ : ∃ r, (((bl g).drop 810).take j).any (· != 48) = r := ⟨_, rfl⟩
     rw [hr] at hstep ⊢
     have HST := Lh hstep
     clear hstep hr hD8
     cases r
     ·cases h48 : (D8 != 48)
      ·have b6 : ((D8 : Int) != 48) = false := by rw [bne_eq_false_iff_eq]; have := bne_eq_false_iff_eq.1 h48; omega
       have HS2 := Lh (show (((bl g).drop 810).take (j + 1)).any (· != 48) = false from by rw [HST.out, h48]; rfl)
       clear h48
       go_wp2
       exact ⟨⟨j + 1, by go_num, by omega, by rw [HS2.out], trivial⟩, by simp [intOf]; omega⟩
      ·have b6 : ((D8 : Int) != 48) = true := by rw [bne_iff_ne]; have := bne_iff_ne.1 h48; omega
       have HS2 := Lh (show (((bl g).drop 810).take (j + 1)).any (· != 48) = true from by rw [HST.out, h48]; rfl)
       clear h48
       go_wp2
       exact ⟨⟨j + 1, by go_num, by omega, by rw [HS2.out], trivial⟩, by simp [intOf]; omega⟩
     ·have HS2 := Lh (show (((bl g).drop 810).take (j + 1)).any (· != 48) = true from by rw [HST.out]; rfl)
      go_wp2
      exact ⟨⟨j + 1, by go_num, by omega, by rw [HS2.out], trivial⟩, by simp [intOf]; omega⟩
    ·have hz2 : (((bl g).drop 810).take j).any (· != 48) = false := by
      rw [List.take_of_length_le (by rw [List.length_drop, Bx, HGN.out]; omega)]
      exact HRB.out
     rw [hz2]
     have b4 : (g.size : Int) = (N : Int) := by rw [HGN.out]
     have b0 : decide (810 + (j : Int) < (N : Int)) = false := decide_eq_false (by omega)
     have b5 : (810 : Int) ≤ (g.size : Int) := by have := HN8.out; omega
     clear hz2
     rcases HUW.out with ⟨u4, rfl, u5, u6⟩ | ⟨u4, rfl, rfl⟩
     all_goals
      go_wp2_with fail
      refine (C3.out _).mono ?_
      rintro e w1 ⟨A1, n1, c1, rfl, g1, b1⟩
      have G1 := Lh g1
      have B1 := Lh b1
      clear g1 b1
      go_wp2_with fail
      refine (C4.out _).mono ?_
      rintro e w2 ⟨A2, n2, c2, rfl, g2, b2⟩
      have G2 := Lh g2
      have G1a := Lh (G1.out.step b2)
      have B2 := Lh (Aa B1.out b2)
      clear g2 b2
      go_wp2_with fail
      refine Bm (C5.out _ _ _ _ G2.out) fun w3 b3 => ?_
      have G2a := Lh (G2.out.step b3)
      have G1b := Lh (G1a.out.step b3)
      have B3 := Lh (Aa B2.out b3)
      clear b3
      go_wp2_with fail
      refine Bm (C6.out _ _ _ _ G1b.out) fun w4 b4 => ?_
      have G2b := Lh (G2a.out.step b4)
      have G1c := Lh (G1b.out.step b4)
      have B4 := Lh (Aa B3.out b4)
      clear b4
      go_wp2_with fail
      refine (C7.out _ _ _ _ G1c.out).mono ?_
      rintro e w5 ⟨A5, n5, c5, rfl, g5, b5⟩
      have G5 := Lh g5
      have G25 := Lh (G2b.out.step b5)
      have B5 := Lh (Aa B4.out b5)
      clear g5 b5
      go_wp2_with fail
      refine (C8.out _ _ _ _ _ _ _ G5.out G25.out).mono ?_
      rintro e w6 ⟨A6, n6, c6, A7, n7, c7, rfl, g6, g7, b6⟩
      have G6 := Lh g6
      have B6 := Lh (Aa B5.out b6)
      have hn7 : (0 : Int) < (n7 : Int) := by
       have h1 := g7.len
       have h2 : (wds (M % D)) ≠ [] := fun e => HREM.out (by have h3 := Ad (M % D); rw [e] at h3; exact h3.symm)
       have := List.length_pos_iff.2 h2
       omega
      clear g6 g7 b6
      go_wp2_with fail
      refine (C9.out _ _ _ _ G6.out).mono ?_
      rintro e w7 ⟨A8, n8, c8, rfl, g8, b7⟩
      have G8 := Lh g8
      have B7 := Lh (Aa B6.out b7)
      clear g8 b7
      have bl := Lh (show Below w7.heap.size w7 (w7.alloc (.cells #[.int .u32 1] 129)) from (Below.refl _ _).alloc (Nat.le_refl _) _)
      have C10' := Lh (C10.out _ _ _ _ _ _ _ (G8.out.step bl.out) (NV.lit w7 1 (by omega) (by omega)))
      go_wp2_with fail
      refine C10'.out.mono ?_
      rintro e w8 ⟨A9, n9, c9, rfl, g9, b8⟩
      have G9 := Lh g9
      have B8 := Lh (Aa (Aa B7.out bl.out) b8)
      clear g9 b8
      go_wp2_with fail
      refine Bm (C11.out _ _ _ _ G9.out) fun w9 b9 => ?_
      have B9 := Lh (Aa B8.out b9)
      clear b9
      go_wp2
      go_ret
      exact ⟨rfl, B9.out⟩
end
section
theorem Px (s : ByteArray) (K N : Nat) (X P : Int) (m F : Nat) (D M : Nat) (g : ByteArray) (y1 y2 : Int) (E : Int) (w : World) (hs : s.size ≤ 281474976710656) (hK : K ≤ s.size) (hN : s.size - K = N)
  (Z1 : Hid (∀ k (h : k < s.size), k < K → (s[k]'h).toNat = 48)) (Z2 : Hid (∀ h : K < s.size, (s[K]'h).toNat ≠ 48))
  (hN0 : 0 < N) (p1 : wrap64 ((N : Int) + X) = P) (t0 : ((N : Int) == 0) = false) (t1 : decide (400 < P) = false) (t2 : decide (P < -400) = false) (t3 : decide (820 < (N : Int)) = true)
  (hg : s.extract K s.size = g) (hgN : g.size = N) (hN8 : 820 < N) (hrb : ((bl g).drop 810).any (· != 48) = true)
  (q0 : wrap64 (X + (N : Int)) = y1) (q1 : wrap64 (y1 - 810) = y2) (q2 : wrap64 (y2 - 1) = E) (_q3 : ¬ 9223372036854775807 < (g.extract 0 810).size + 1) 
  (C3 : Hid (∀ W, Cp 195 #[.string (g.extract 0 810 ++ ⟨#[49]⟩), .int .i64 10] W (NOk m W)))
  (C4 : Hid (∀ W, Cp 196 #[.int .i64 E] W (NRet D W)))
  (C5 : Hid (∀ W A1 n1 c1 A2 n2 c2, NV W A1 n1 c1 m → NV W A2 n2 c2 D → Cp 138 #[.slice A1 n1 c1, .slice A2 n2 c2] W (NRet M W)))
  (C6 : Hid (∀ W A1 n1 c1, NV W A1 n1 c1 M → Ct 139 #[.slice A1 n1 c1, .int .i64 0] (.float .f64 F) W))
  (u0 : decide (0 ≤ E) = true) :
  Ct 141 #[.string s, .int .i64 X] (.float .f64 F) w := by
 have h1 : (s.size : Int) ≤ 281474976710656 := by omega
 have HN := Lh hN
 have HK := Lh hK
 have HN0 := Lh hN0
 have HG := Lh hg
 have HGN := Lh hgN
 have HN8 := Lh hN8
 have HRB := Lh hrb
 clear hs hK hN hN0 hg hgN hN8 hrb
 go_enter Tryz.func141, Tryz.ntmps141
 go_wp2
 go_loopw [5] (fun i wr => ∃ k : Nat, i = .int .i64 k ∧ k ≤ K ∧ w = wr) (fun i _ => K - (intOf i).toNat)
 case atStart => exact ⟨0, rfl, Nat.zero_le _, rfl⟩
 case round =>
  obtain ⟨k, rfl, hk, rfl⟩ := hrel
  have hk2 := HK.out
  by_cases hlt : k < K
  ·have hks : k < s.size := by omega
   have e0 : ((s[k]'hks).toNat : Int) = 48 := by rw [Z1.out k hks hlt]; rfl
   have a2 : (k : Int) < (s.size : Int) := by omega
   have a1 : (0 : Int) ≤ (k : Int) := by omega
   clear hk2
   go_wp2
   exact ⟨⟨k + 1, by go_num, by omega, trivial⟩, by simp [intOf]; omega⟩
  ·obtain rfl : k = K := by omega
   have hz : k < s.size := by have := HN.out; have := HN0.out; omega
   obtain ⟨B, hB⟩ : ∃ B : Nat, (s[k]'hz).toNat = B := ⟨_, rfl⟩
   have hB48 := Z2.out hz
   rw [hB] at hB48
   have e0 : ((s[k]'hz).toNat : Int) = (B : Int) := by rw [hB]
   have e1 : ((B : Int) == 48) = false := by rw [beq_eq_false_iff_ne]; omega
   have a2 : (k : Int) < (s.size : Int) := by omega
   have a1 : (0 : Int) ≤ (k : Int) := by omega
   have a3 : (k : Int) ≤ (s.size : Int) := by omega
   have a4 : ((s.size - k : Nat) : Int) = (N : Int) := by rw [HN.out]
   clear hk2 hB hB48
   have hext : s.extract k s.size = g := HG.out
   have b4 : (g.size : Int) = (N : Int) := by rw [HGN.out]
   go_wp2
   clear a1 a2 a3 e0 e1 hext hz b4
   go_loopw [6, 7] (fun v i wr => ∃ j : Nat, i = .int .i64 (810 + (j : Int)) ∧ 810 + j ≤ N ∧ v = .bool ((((bl g).drop 810).take j).any (· != 48)) ∧ w = wr) (fun _ i _ => N - (intOf i).toNat)
   case atStart => exact ⟨0, rfl, by have := HN8.out; omega, rfl, rfl⟩
   case round =>
    obtain ⟨j, rfl, hj, rfl, rfl⟩ := hrel
    by_cases hjl : 810 + j < N
    ·have hgs : 810 + j < g.size := by rw [HGN.out]; exact hjl
     obtain ⟨D8, hD8⟩ : ∃ D8 : Nat, (g[810 + j]'hgs).toNat = D8 := ⟨_, rfl⟩
     have hstep : (((bl g).drop 810).take (j + 1)).any (· != 48) = ((((bl g).drop 810).take j).any (· != 48) || (D8 != 48)) := by
      rw [List.take_add_one, List.getElem?_drop, De g (810 + j) hgs, hD8, List.any_append]
      simp
     have b0 : ((810 + (j : Int)) : Int) < (N : Int) := by omega
     have b1 : (0 : Int) ≤ 810 + (j : Int) := by omega
     have b2 : (810 + (j : Int)).toNat = 810 + j := by omega
     have b3 : ((g[810 + j]'hgs).toNat : Int) = (D8 : Int) := by rw [hD8]
     have b4 : (g.size : Int) = (N : Int) := by rw [HGN.out]
     have b5 : 810 + (j : Int) < (g.size : Int) := by omega
     obtain ⟨r, hr⟩ : ∃ r, (((bl g).drop 810).take j).any (· != 48) = r := ⟨_, rfl⟩
     rw [hr] at hstep ⊢
     have HST := Lh hstep
     clear hstep hr hD8
     cases r
     ·cases h48 : (D8 != 48)
      ·have b6 : ((D8 : Int) != 48) = false := by rw [bne_eq_false_iff_eq]; have := bne_eq_false_iff_eq.1 h48; omega
       have HS2 := Lh (show (((bl g).drop 810).take (j + 1)).any (· != 48) = false from by rw [HST.out, h48]; rfl)
       clear h48
       go_wp2
       exact ⟨⟨j + 1, by go_num, by omega, by rw [HS2.out], trivial⟩, by simp [intOf]; omega⟩
      ·have b6 : ((D8 : Int) != 48) = true := by rw [bne_iff_ne]; have := bne_iff_ne.1 h48; omega
       have HS2 := Lh (show (((bl g).drop 810).take (j + 1)).any (· != 48) = true from by rw [HST.out, h48]; rfl)
       clear h48
       go_wp2
       exact ⟨⟨j + 1, by go_num, by omega, by rw [HS2.out], trivial⟩, by simp [intOf]; omega⟩
     ·have HS2 := Lh (show (((bl g).drop 810).take (j + 1)).any (· != 48) = true from by rw [HST.out]; rfl)
      go_wp2
      exact ⟨⟨j + 1, by go_num, by omega, by rw [HS2.out], trivial⟩, by simp [intOf]; omega⟩
    ·have hz2 : (((bl g).drop 810).take j).any (· != 48) = true := by
      rw [List.take_of_length_le (by rw [List.length_drop, Bx, HGN.out]; omega)]
      exact HRB.out
     rw [hz2]
     have b4 : (g.size : Int) = (N : Int) := by rw [HGN.out]
     have b0 : decide (810 + (j : Int) < (N : Int)) = false := decide_eq_false (by omega)
     have b5 : (810 : Int) ≤ (g.size : Int) := by have := HN8.out; omega
     clear hz2
     go_wp2_with fail
     refine (C3.out _).mono ?_
     rintro e w1 ⟨A1, n1, c1, rfl, g1, b1⟩
     have G1 := Lh g1
     have B1 := Lh b1
     clear g1 b1
     go_wp2_with fail
     refine (C4.out _).mono ?_
     rintro e w2 ⟨A2, n2, c2, rfl, g2, b2⟩
     have G2 := Lh g2
     have G1a := Lh (G1.out.step b2)
     have B2 := Lh (Aa B1.out b2)
     clear g2 b2
     go_wp2_with fail
     refine (C5.out _ _ _ _ _ _ _ G1a.out G2.out).mono ?_
     rintro e w3 ⟨A3, n3, c3, rfl, g3, b3⟩
     have G3 := Lh g3
     have B3 := Lh (Aa B2.out b3)
     clear g3 b3
     go_wp2_with fail
     refine Bm (C6.out _ _ _ _ G3.out) fun w4 b4 => ?_
     have B4 := Lh (Aa B3.out b4)
     clear b4
     go_wp2
     go_ret
     exact ⟨rfl, B4.out⟩
theorem M8 (s : ByteArray) (K N : Nat) (X P : Int) (m F : Nat) (D M Q bd ba : Nat) (x1 up x2 Y U : Int) (g : ByteArray) (y1 y2 : Int) (E : Int) (w : World) (hs : s.size ≤ 281474976710656) (hK : K ≤ s.size) (hN : s.size - K = N)
  (Z1 : Hid (∀ k (h : k < s.size), k < K → (s[k]'h).toNat = 48)) (Z2 : Hid (∀ h : K < s.size, (s[K]'h).toNat ≠ 48))
  (hN0 : 0 < N) (p1 : wrap64 ((N : Int) + X) = P) (t0 : ((N : Int) == 0) = false) (t1 : decide (400 < P) = false) (t2 : decide (P < -400) = false) (t3 : decide (820 < (N : Int)) = true)
  (hg : s.extract K s.size = g) (hgN : g.size = N) (hN8 : 820 < N) (hrb : ((bl g).drop 810).any (· != 48) = true)
  (q0 : wrap64 (X + (N : Int)) = y1) (q1 : wrap64 (y1 - 810) = y2) (q2 : wrap64 (y2 - 1) = E) (_q3 : ¬ 9223372036854775807 < (g.extract 0 810).size + 1) 
  (C3 : Hid (∀ W, Cp 195 #[.string (g.extract 0 810 ++ ⟨#[49]⟩), .int .i64 10] W (NOk m W)))
  (C4 : Hid (∀ W, Cp 196 #[.int .i64 (-E)] W (NRet D W)))
  (C5 : Hid (∀ W A1 n1 c1, NV W A1 n1 c1 D → Ct 193 #[.slice A1 n1 c1] (.int .i64 (bd : Nat)) W))
  (C6 : Hid (∀ W A1 n1 c1, NV W A1 n1 c1 m → Ct 193 #[.slice A1 n1 c1] (.int .i64 (ba : Nat)) W))
  (C7 : Hid (∀ W A1 n1 c1, NV W A1 n1 c1 m → Cp 157 #[.slice A1 n1 c1, .int .i64 U] W (NRet M W)))
  (C8 : Hid (∀ W A1 n1 c1 A2 n2 c2, NV W A1 n1 c1 M → NV W A2 n2 c2 D → Cp 155 #[.slice A1 n1 c1, .slice A2 n2 c2] W (Qd M D W)))
  (C9 : Hid (∀ W A1 n1 c1, NV W A1 n1 c1 (M / D) → Cp 157 #[.slice A1 n1 c1, .int .i64 1] W (NRet Q W)))
  (C11 : Hid (∀ W A1 n1 c1, NV W A1 n1 c1 Q → Ct 139 #[.slice A1 n1 c1, .int .i64 Y] (.float .f64 F) W))
  (hrem : M % D = 0)
  (u0 : decide (0 ≤ E) = false) (u1 : wrap64 (-E) = -E) (u2 : wrap64 ((bd : Int) - (ba : Int)) = x1) (u3 : wrap64 (x1 + 70) = up) (hu : (decide (up < 0) = false ∧ U = up ∧ wrap64 (-up) = x2 ∧ wrap64 (x2 - 1) = Y) ∨ (decide (up < 0) = true ∧ U = 0 ∧ Y = -1)) :
  Ct 141 #[.string s, .int .i64 X] (.float .f64 F) w := by
 have h1 : (s.size : Int) ≤ 281474976710656 := by omega
 have HN := Lh hN
 have HK := Lh hK
 have HN0 := Lh hN0
 have HREM := Lh hrem
 have HG := Lh hg
 have HGN := Lh hgN
 have HN8 := Lh hN8
 have HRB := Lh hrb
 have HUW := Lh hu
 clear hu hs hK hN hN0 hrem hg hgN hN8 hrb
 go_enter Tryz.func141, Tryz.ntmps141
 go_wp2
 go_loopw [5] (fun i wr => ∃ k : Nat, i = .int .i64 k ∧ k ≤ K ∧ w = wr) (fun i _ => K - (intOf i).toNat)
 case atStart => exact ⟨0, rfl, Nat.zero_le _, rfl⟩
 case round =>
  obtain ⟨k, rfl, hk, rfl⟩ := hrel
  have hk2 := HK.out
  by_cases hlt : k < K
  ·have hks : k < s.size := by omega
   have e0 : ((s[k]'hks).toNat : Int) = 48 := by rw [Z1.out k hks hlt]; rfl
   have a2 : (k : Int) < (s.size : Int) := by omega
   have a1 : (0 : Int) ≤ (k : Int) := by omega
   clear hk2
   go_wp2
   exact ⟨⟨k + 1, by go_num, by omega, trivial⟩, by simp [intOf]; omega⟩
  ·obtain rfl : k = K := by omega
   have hz : k < s.size := by have := HN.out; have := HN0.out; omega
   obtain ⟨B, hB⟩ : ∃ B : Nat, (s[k]'hz).toNat = B := ⟨_, rfl⟩
   have hB48 := Z2.out hz
   rw [hB] at hB48
   have e0 : ((s[k]'hz).toNat : Int) = (B : Int) := by rw [hB]
   have e1 : ((B : Int) == 48) = false := by rw [beq_eq_false_iff_ne]; omega
   have a2 : (k : Int) < (s.size : Int) := by omega
   have a1 : (0 : Int) ≤ (k : Int) := by omega
   have a3 : (k : Int) ≤ (s.size : Int) := by omega
   have a4 : ((s.size - k : Nat) : Int) = (N : Int) := by rw [HN.out]
   clear hk2 hB hB48
   have hext : s.extract k s.size = g := HG.out
   have b4 : (g.size : Int) = (N : Int) := by rw [HGN.out]
   go_wp2
   clear a1 a2 a3 e0 e1 hext hz b4
   go_loopw [6, 7] (fun v i wr => ∃ j : Nat, i = .int .i64 (810 + (j : Int)) ∧ 810 + j ≤ N ∧ v = .bool ((((bl g).drop 810).take j).any (· != 48)) ∧ w = wr) (fun _ i _ => N - (intOf i).toNat)
   case atStart => exact ⟨0, rfl, by have := HN8.out; omega, rfl, rfl⟩
   case round =>
    obtain ⟨j, rfl, hj, rfl, rfl⟩ := hrel
    by_cases hjl : 810 + j < N
    ·have hgs : 810 + j < g.size := by rw [HGN.out]; exact hjl
     obtain ⟨D8, hD8⟩ : ∃ D8 : Nat, (g[810 + j]'hgs).toNat = D8 := ⟨_, rfl⟩
     have hstep : (((bl g).drop 810).take (j + 1)).any (· != 48) = ((((bl g).drop 810).take j).any (· != 48) || (D8 != 48)) := by
      rw [List.take_add_one, List.getElem?_drop, De g (810 + j) hgs, hD8, List.any_append]
      simp
     have b0 : ((810 + (j : Int)) : Int) < (N : Int) := by omega
     have b1 : (0 : Int) ≤ 810 + (j : Int) := by omega
     have b2 : (810 + (j : Int)).toNat = 810 + j := by omega
     have b3 : ((g[810 + j]'hgs).toNat : Int) = (D8 : Int) := by rw [hD8]
     have b4 : (g.size : Int) = (N : Int) := by rw [HGN.out]
     have b5 : 810 + (j : Int) < (g.size : Int) := by omega
     obtain ⟨r, hr⟩ : ∃ r, (((bl g).drop 810).take j).any (· != 48) = r := ⟨_, rfl⟩
     rw [hr] at hstep ⊢
     have HST := Lh hstep
     clear hstep hr hD8
     cases r
     ·cases h48 : (D8 != 48)
      ·have b6 : ((D8 : Int) != 48) = false := by rw [bne_eq_false_iff_eq]; have := bne_eq_false_iff_eq.1 h48; omega
       have HS2 := Lh (show (((bl g).drop 810).take (j + 1)).any (· != 48) = false from by rw [HST.out, h48]; rfl)
       clear h48
       go_wp2
       exact ⟨⟨j + 1, by go_num, by omega, by rw [HS2.out], trivial⟩, by simp [intOf]; omega⟩
      ·have b6 : ((D8 : Int) != 48) = true := by rw [bne_iff_ne]; have := bne_iff_ne.1 h48; omega
       have HS2 := Lh (show (((bl g).drop 810).take (j + 1)).any (· != 48) = true from by rw [HST.out, h48]; rfl)
       clear h48
       go_wp2
       exact ⟨⟨j + 1, by go_num, by omega, by rw [HS2.out], trivial⟩, by simp [intOf]; omega⟩
     ·have HS2 := Lh (show (((bl g).drop 810).take (j + 1)).any (· != 48) = true from by rw [HST.out]; rfl)
      go_wp2
      exact ⟨⟨j + 1, by go_num, by omega, by rw [HS2.out], trivial⟩, by simp [intOf]; omega⟩
    ·have hz2 : (((bl g).drop 810).take j).any (· != 48) = true := by
      rw [List.take_of_length_le (by rw [List.length_drop, Bx, HGN.out]; omega)]
      exact HRB.out
     rw [hz2]
     have b4 : (g.size : Int) = (N : Int) := by rw [HGN.out]
     have b0 : decide (810 + (j : Int) < (N : Int)) = false := decide_eq_false (by omega)
     have b5 : (810 : Int) ≤ (g.size : Int) := by have := HN8.out; omega
     clear hz2
     rcases HUW.out with ⟨u4, rfl, u5, u6⟩ | ⟨u4, rfl, rfl⟩
     all_goals
      go_wp2_with fail
      refine (C3.out _).mono ?_
      rintro e w1 ⟨A1, n1, c1, rfl, g1, b1⟩
      have G1 := Lh g1
      have B1 := Lh b1
      clear g1 b1
      go_wp2_with fail
      refine (C4.out _).mono ?_
      rintro e w2 ⟨A2, n2, c2, rfl, g2, b2⟩
      have G2 := Lh g2
      have G1a := Lh (G1.out.step b2)
      have B2 := Lh (Aa B1.out b2)
      clear g2 b2
      go_wp2_with fail
      refine Bm (C5.out _ _ _ _ G2.out) fun w3 b3 => ?_
      have G2a := Lh (G2.out.step b3)
      have G1b := Lh (G1a.out.step b3)
      have B3 := Lh (Aa B2.out b3)
      clear b3
      go_wp2_with fail
      refine Bm (C6.out _ _ _ _ G1b.out) fun w4 b4 => ?_
      have G2b := Lh (G2a.out.step b4)
      have G1c := Lh (G1b.out.step b4)
      have B4 := Lh (Aa B3.out b4)
      clear b4
      go_wp2_with fail
      refine (C7.out _ _ _ _ G1c.out).mono ?_
      rintro e w5 ⟨A5, n5, c5, rfl, g5, b5⟩
      have G5 := Lh g5
      have G25 := Lh (G2b.out.step b5)
      have B5 := Lh (Aa B4.out b5)
      clear g5 b5
      go_wp2_with fail
      refine (C8.out _ _ _ _ _ _ _ G5.out G25.out).mono ?_
      rintro e w6 ⟨A6, n6, c6, A7, n7, c7, rfl, g6, g7, b6⟩
      have G6 := Lh g6
      have B6 := Lh (Aa B5.out b6)
      obtain rfl : n7 = 0 := by
       have h1 := g7.len
       rw [HREM.out] at h1
       exact h1.symm
      clear g6 g7 b6
      go_wp2_with fail
      refine (C9.out _ _ _ _ G6.out).mono ?_
      rintro e w7 ⟨A8, n8, c8, rfl, g8, b7⟩
      have G8 := Lh g8
      have B7 := Lh (Aa B6.out b7)
      clear g8 b7
      go_wp2_with fail
      refine Bm (C11.out _ _ _ _ G8.out) fun w9 b9 => ?_
      have B9 := Lh (Aa B7.out b9)
      clear b9
      go_wp2
      go_ret
      exact ⟨rfl, B9.out⟩
theorem Na (s : ByteArray) (K N : Nat) (X P : Int) (m F : Nat) (D M Q Q2 bd ba : Nat) (x1 up x2 Y U : Int) (g : ByteArray) (y1 y2 : Int) (E : Int) (w : World) (hs : s.size ≤ 281474976710656) (hK : K ≤ s.size) (hN : s.size - K = N)
  (Z1 : Hid (∀ k (h : k < s.size), k < K → (s[k]'h).toNat = 48)) (Z2 : Hid (∀ h : K < s.size, (s[K]'h).toNat ≠ 48))
  (hN0 : 0 < N) (p1 : wrap64 ((N : Int) + X) = P) (t0 : ((N : Int) == 0) = false) (t1 : decide (400 < P) = false) (t2 : decide (P < -400) = false) (t3 : decide (820 < (N : Int)) = true)
  (hg : s.extract K s.size = g) (hgN : g.size = N) (hN8 : 820 < N) (hrb : ((bl g).drop 810).any (· != 48) = true)
  (q0 : wrap64 (X + (N : Int)) = y1) (q1 : wrap64 (y1 - 810) = y2) (q2 : wrap64 (y2 - 1) = E) (_q3 : ¬ 9223372036854775807 < (g.extract 0 810).size + 1) 
  (C3 : Hid (∀ W, Cp 195 #[.string (g.extract 0 810 ++ ⟨#[49]⟩), .int .i64 10] W (NOk m W)))
  (C4 : Hid (∀ W, Cp 196 #[.int .i64 (-E)] W (NRet D W)))
  (C5 : Hid (∀ W A1 n1 c1, NV W A1 n1 c1 D → Ct 193 #[.slice A1 n1 c1] (.int .i64 (bd : Nat)) W))
  (C6 : Hid (∀ W A1 n1 c1, NV W A1 n1 c1 m → Ct 193 #[.slice A1 n1 c1] (.int .i64 (ba : Nat)) W))
  (C7 : Hid (∀ W A1 n1 c1, NV W A1 n1 c1 m → Cp 157 #[.slice A1 n1 c1, .int .i64 U] W (NRet M W)))
  (C8 : Hid (∀ W A1 n1 c1 A2 n2 c2, NV W A1 n1 c1 M → NV W A2 n2 c2 D → Cp 155 #[.slice A1 n1 c1, .slice A2 n2 c2] W (Qd M D W)))
  (C9 : Hid (∀ W A1 n1 c1, NV W A1 n1 c1 (M / D) → Cp 157 #[.slice A1 n1 c1, .int .i64 1] W (NRet Q W)))
  (C10 : Hid (∀ W A1 n1 c1 A2 n2 c2, NV W A1 n1 c1 Q → NV W A2 n2 c2 1 → Cp 137 #[.slice A1 n1 c1, .slice A2 n2 c2] W (NRet Q2 W)))
  (C11 : Hid (∀ W A1 n1 c1, NV W A1 n1 c1 Q2 → Ct 139 #[.slice A1 n1 c1, .int .i64 Y] (.float .f64 F) W))
  (hrem : M % D ≠ 0)
  (u0 : decide (0 ≤ E) = false) (u1 : wrap64 (-E) = -E) (u2 : wrap64 ((bd : Int) - (ba : Int)) = x1) (u3 : wrap64 (x1 + 70) = up) (hu : (decide (up < 0) = false ∧ U = up ∧ wrap64 (-up) = x2 ∧ wrap64 (x2 - 1) = Y) ∨ (decide (up < 0) = true ∧ U = 0 ∧ Y = -1)) :
  Ct 141 #[.string s, .int .i64 X] (.float .f64 F) w := by
 have h1 : (s.size : Int) ≤ 281474976710656 := by omega
 have HN := Lh hN
 have HK := Lh hK
 have HN0 := Lh hN0
 have HREM := Lh hrem
 have HG := Lh hg
 have HGN := Lh hgN
 have HN8 := Lh hN8
 have HRB := Lh hrb
 have HUW := Lh hu
 clear hu hs hK hN hN0 hrem hg hgN hN8 hrb
 go_enter Tryz.func141, Tryz.ntmps141
 go_wp2
 go_loopw [5] (fun i wr => ∃ k : Nat, i = .int .i64 k ∧ k ≤ K ∧ w = wr) (fun i _ => K - (intOf i).toNat)
 case atStart => exact ⟨0, rfl, Nat.zero_le _, rfl⟩
 case round =>
  obtain ⟨k, rfl, hk, rfl⟩ := hrel
  have hk2 := HK.out
  by_cases hlt : k < K
  ·have hks : k < s.size := by omega
   have e0 : ((s[k]'hks).toNat : Int) = 48 := by rw [Z1.out k hks hlt]; rfl
   have a2 : (k : Int) < (s.size : Int) := by omega
   have a1 : (0 : Int) ≤ (k : Int) := by omega
   clear hk2
   go_wp2
   exact ⟨⟨k + 1, by go_num, by omega, trivial⟩, by simp [intOf]; omega⟩
  ·obtain rfl : k = K := by omega
   have hz : k < s.size := by have := HN.out; have := HN0.out; omega
   obtain ⟨B, hB⟩ : ∃ B : Nat, (s[k]'hz).toNat = B := ⟨_, rfl⟩
   have hB48 := Z2.out hz
   rw [hB] at hB48
   have e0 : ((s[k]'hz).toNat : Int) = (B : Int) := by rw [hB]
   have e1 : ((B : Int) == 48) = false := by rw [beq_eq_false_iff_ne]; omega
   have a2 : (k : Int) < (s.size : Int) := by omega
   have a1 : (0 : Int) ≤ (k : Int) := by omega
   have a3 : (k : Int) ≤ (s.size : Int) := by omega
   have a4 : ((s.size - k : Nat) : Int) = (N : Int) := by rw [HN.out]
   clear hk2 hB hB48
   have hext : s.extract k s.size = g := HG.out
   have b4 : (g.size : Int) = (N : Int) := by rw [HGN.out]
   go_wp2
   clear a1 a2 a3 e0 e1 hext hz b4
   go_loopw [6, 7] (fun v i wr => ∃ j : Nat, i = .int .i64 (810 + (j : Int)) ∧ 810 + j ≤ N ∧ v = .bool ((((bl g).drop 810).take j).any (· != 48)) ∧ w = wr) (fun _ i _ => N - (intOf i).toNat)
   case atStart => exact ⟨0, rfl, by have := HN8.out; omega, rfl, rfl⟩
   case round =>
    obtain ⟨j, rfl, hj, rfl, rfl⟩ := hrel
    by_cases hjl : 810 + j < N
    ·have hgs : 810 + j < g.size := by rw [HGN.out]; exact hjl
     obtain ⟨D8, hD8⟩ : ∃ D8 : Nat, (g[810 + j]'hgs).toNat = D8 := ⟨_, rfl⟩
     have hstep : (((bl g).drop 810).take (j + 1)).any (· != 48) = ((((bl g).drop 810).take j).any (· != 48) || (D8 != 48)) := by
      rw [List.take_add_one, List.getElem?_drop, De g (810 + j) hgs, hD8, List.any_append]
      simp
     have b0 : ((810 + (j : Int)) : Int) < (N : Int) := by omega
     have b1 : (0 : Int) ≤ 810 + (j : Int) := by omega
     have b2 : (810 + (j : Int)).toNat = 810 + j := by omega
     have b3 : ((g[810 + j]'hgs).toNat : Int) = (D8 : Int) := by rw [hD8]
     have b4 : (g.size : Int) = (N : Int) := by rw [HGN.out]
     have b5 : 810 + (j : Int) < (g.size : Int) := by omega
     obtain ⟨r, hr⟩ : ∃ r, (((bl g).drop 810).take j).any (· != 48) = r := ⟨_, rfl⟩
     rw [hr] at hstep ⊢
     have HST := Lh hstep
     clear hstep hr hD8
     cases r
     ·cases h48 : (D8 != 48)
      ·have b6 : ((D8 : Int) != 48) = false := by rw [bne_eq_false_iff_eq]; have := bne_eq_false_iff_eq.1 h48; omega
       have HS2 := Lh (show (((bl g).drop 810).take (j + 1)).any (· != 48) = false from by rw [HST.out, h48]; rfl)
       clear h48
       go_wp2
       exact ⟨⟨j + 1, by go_num, by omega, by rw [HS2.out], trivial⟩, by simp [intOf]; omega⟩
      ·have b6 : ((D8 : Int) != 48) = true := by rw [bne_iff_ne]; have := bne_iff_ne.1 h48; omega
       have HS2 := Lh (show (((bl g).drop 810).take (j + 1)).any (· != 48) = true from by rw [HST.out, h48]; rfl)
       clear h48
       go_wp2
       exact ⟨⟨j + 1, by go_num, by omega, by rw [HS2.out], trivial⟩, by simp [intOf]; omega⟩
     ·have HS2 := Lh (show (((bl g).drop 810).take (j + 1)).any (· != 48) = true from by rw [HST.out]; rfl)
      go_wp2
      exact ⟨⟨j + 1, by go_num, by omega, by rw [HS2.out], trivial⟩, by simp [intOf]; omega⟩
    ·have hz2 : (((bl g).drop 810).take j).any (· != 48) = true := by
      rw [List.take_of_length_le (by rw [List.length_drop, Bx, HGN.out]; omega)]
      exact HRB.out
     rw [hz2]
     have b4 : (g.size : Int) = (N : Int) := by rw [HGN.out]
     have b0 : decide (810 + (j : Int) < (N : Int)) = false := decide_eq_false (by omega)
     have b5 : (810 : Int) ≤ (g.size : Int) := by have := HN8.out; omega
     clear hz2
     rcases HUW.out with ⟨u4, rfl, u5, u6⟩ | ⟨u4, rfl, rfl⟩
     all_goals
      go_wp2_with fail
      refine (C3.out _).mono ?_
      rintro e w1 ⟨A1, n1, c1, rfl, g1, b1⟩
      have G1 := Lh g1
      have B1 := Lh b1
      clear g1 b1
      go_wp2_with fail
      refine (C4.out _).mono ?_
      rintro e w2 ⟨A2, n2, c2, rfl, g2, b2⟩
      have G2 := Lh g2
      have G1a := Lh (G1.out.step b2)
      have B2 := Lh (Aa B1.out b2)
      clear g2 b2
      go_wp2_with fail
      refine Bm (C5.out _ _ _ _ G2.out) fun w3 b3 => ?_
      have G2a := Lh (G2.out.step b3)
      have G1b := Lh (G1a.out.step b3)
      have B3 := Lh (Aa B2.out b3)
      clear b3
      go_wp2_with fail
      refine Bm (C6.out _ _ _ _ G1b.out) fun w4 b4 => ?_
      have G2b := Lh (G2a.out.step b4)
      have G1c := Lh (G1b.out.step b4)
      have B4 := Lh (Aa B3.out b4)
      clear b4
      go_wp2_with fail
      refine (C7.out _ _ _ _ G1c.out).mono ?_
      rintro e w5 ⟨A5, n5, c5, rfl, g5, b5⟩
      have G5 := Lh g5
      have G25 := Lh (G2b.out.step b5)
      have B5 := Lh (Aa B4.out b5)
      clear g5 b5
      go_wp2_with fail
      refine (C8.out _ _ _ _ _ _ _ G5.out G25.out).mono ?_
      rintro e w6 ⟨A6, n6, c6, A7, n7, c7, rfl, g6, g7, b6⟩
      have G6 := Lh g6
      have B6 := Lh (Aa B5.out b6)
      have hn7 : (0 : Int) < (n7 : Int) := by
       have h1 := g7.len
       have h2 : (wds (M % D)) ≠ [] := fun e => HREM.out (by have h3 := Ad (M % D); rw [e] at h3; exact h3.symm)
       have := List.length_pos_iff.2 h2
       omega
      clear g6 g7 b6
      go_wp2_with fail
      refine (C9.out _ _ _ _ G6.out).mono ?_
      rintro e w7 ⟨A8, n8, c8, rfl, g8, b7⟩
      have G8 := Lh g8
      have B7 := Lh (Aa B6.out b7)
      clear g8 b7
      have bl := Lh (show Below w7.heap.size w7 (w7.alloc (.cells #[.int .u32 1] 129)) from (Below.refl _ _).alloc (Nat.le_refl _) _)
      have C10' := Lh (C10.out _ _ _ _ _ _ _ (G8.out.step bl.out) (NV.lit w7 1 (by omega) (by omega)))
      go_wp2_with fail
      refine C10'.out.mono ?_
      rintro e w8 ⟨A9, n9, c9, rfl, g9, b8⟩
      have G9 := Lh g9
      have B8 := Lh (Aa (Aa B7.out bl.out) b8)
      clear g9 b8
      go_wp2_with fail
      refine Bm (C11.out _ _ _ _ G9.out) fun w9 b9 => ?_
      have B9 := Lh (Aa B8.out b9)
      clear b9
      go_wp2
      go_ret
      exact ⟨rfl, B9.out⟩
end
section
theorem Lu (m k : Nat) (h0 : 0 < m) (hb : bln m ≤ 3300) (hk : k ≤ 1300) : ∃ (D M bd ba : Nat) (U : Int), U = max 0 ((bd : Int) - ba + 70) ∧ bd ≤ 6000 ∧ ba ≤ 6000 ∧
  Hid (∀ W, Cp 196 #[.int .i64 (k : Nat)] W (NRet D W)) ∧
  Hid (∀ W A1 n1 c1, NV W A1 n1 c1 D → Ct 193 #[.slice A1 n1 c1] (.int .i64 (bd : Nat)) W) ∧
  Hid (∀ W A1 n1 c1, NV W A1 n1 c1 m → Ct 193 #[.slice A1 n1 c1] (.int .i64 (ba : Nat)) W) ∧
  Hid (∀ W A1 n1 c1, NV W A1 n1 c1 m → Cp 157 #[.slice A1 n1 c1, .int .i64 U] W (NRet M W)) ∧
  Hid (∀ W A1 n1 c1 A2 n2 c2, NV W A1 n1 c1 M → NV W A2 n2 c2 D → Cp 155 #[.slice A1 n1 c1, .slice A2 n2 c2] W (Qd M D W)) ∧
  Hid (∀ W A1 n1 c1, NV W A1 n1 c1 (M / D) → Cp 157 #[.slice A1 n1 c1, .int .i64 1] W (NRet (M / D * 2) W)) ∧
  Hid (∀ W A1 n1 c1 A2 n2 c2, NV W A1 n1 c1 (M / D * 2) → NV W A2 n2 c2 1 → Cp 137 #[.slice A1 n1 c1, .slice A2 n2 c2] W (NRet (M / D * 2 + 1) W)) ∧
  (M % D = 0 → Hid (∀ W A1 n1 c1, NV W A1 n1 c1 (M / D * 2) → Ct 139 #[.slice A1 n1 c1, .int .i64 (-U - 1)] (.float .f64 (Bg m (-(k : Int)))) W)) ∧
  (M % D ≠ 0 → Hid (∀ W A1 n1 c1, NV W A1 n1 c1 (M / D * 2 + 1) → Ct 139 #[.slice A1 n1 c1, .int .i64 (-U - 1)] (.float .f64 (Bg m (-(k : Int)))) W)) := by
 obtain ⟨u1, u2, u3⟩ := Ay h0
 obtain ⟨v1, v2, v3⟩ := Ay (Ar k)
 have ft := Ek k
 obtain ⟨D, hD⟩ : ∃ D, 10 ^ k = D := ⟨_, rfl⟩
 rw [hD] at v1 v2 v3 ft
 obtain ⟨bd, hbd⟩ : ∃ bd, bln D = bd := ⟨_, rfl⟩
 obtain ⟨ba, hba⟩ : ∃ ba, bln m = ba := ⟨_, rfl⟩
 have hD0 : 0 < D := by rw [← hD]; exact Ar k
 obtain ⟨up, hup⟩ : ∃ up : Nat, (up : Int) = max 0 ((bd : Int) - ba + 70) := ⟨(max 0 ((bd : Int) - ba + 70)).toNat, by omega⟩
 have g1 := Cr m (2 ^ up)
 have g2 := Ee up
 obtain ⟨M, hM⟩ : ∃ M, m * 2 ^ up = M := ⟨_, rfl⟩
 have hM0 : 0 < M := by rw [← hM]; exact Nat.mul_pos h0 (Au _)
 rw [hM] at g1
 rw [hba] at hb u1 u2 u3 g1
 rw [hbd] at v1 v2 v3 ft
 have hup2 : up ≤ 5400 := by omega
 obtain ⟨p, rfl⟩ : ∃ p, ba = p + 1 := ⟨ba - 1, by omega⟩
 obtain ⟨r, rfl⟩ : ∃ r, bd = r + 1 := ⟨bd - 1, by omega⟩
 rw [Nat.add_sub_cancel] at u1 v1
 have hbig := (Lg (x := up) (y := 0) u1 u2 v1 v2 60).2 (by omega)
 rw [Nat.pow_zero, Nat.mul_one, hM] at hbig
 have hqM : M / D ≤ M := Nat.div_le_self _ _
 have l1 := Ce hqM
 have l2 := Ce (show M / D * 2 ≤ M * 4 by omega)
 have l3 := Ce (show M / D * 2 + 1 ≤ M * 4 by omega)
 have l4 := Cr M 4
 rw [show bln 4 = 3 by decide] at l4
 obtain ⟨q, hq⟩ : ∃ q, M / D = q := ⟨_, rfl⟩
 obtain ⟨t, ht⟩ : ∃ t, M % D = t := ⟨_, rfl⟩
 have hNd : M = q * D + t := by rw [← hq, ← ht, Nat.mul_comm]; exact (Nat.div_add_mod M D).symm
 have htd : t < D := by rw [← ht]; exact Nat.mod_lt _ hD0
 obtain ⟨a, ha⟩ : ∃ a, 1074 - up = a := ⟨_, rfl⟩
 obtain ⟨b, hb2⟩ : ∃ b, up - 1074 = b := ⟨_, rfl⟩
 have key := fun s hs => Agi (m := m) (N := M) (q := q) (t := t) (s := s) (k := k) (up := up) (a := a) (b := b) hM.symm (by rw [hD]; exact hNd) (by rw [hD]; exact htd) hs (by rw [← hq]; exact hbig) ha.symm hb2.symm
 rw [hq] at l1 l2 l3
 refine ⟨D, M, r + 1, p + 1, (up : Int), hup, by omega, by omega, Lh (fun W => ?_), Lh (fun W A1 n1 c1 h => ?_), Lh (fun W A1 n1 c1 h => ?_), Lh (fun W A1 n1 c1 h => ?_), Lh (fun W A1 n1 c1 A2 n2 c2 h g => Xq h g (by omega) (by omega) hD0), Lh (fun W A1 n1 c1 h => ?_), Lh (fun W A1 n1 c1 A2 n2 c2 h g => Akx h g (by rw [hq]; omega) (by decide)), ?_, ?_⟩
 ·rw [← hD]; exact Gm k W (by omega)
 ·rw [← hbd]; exact Su h (by omega)
 ·rw [← hba]; exact Su h (by omega)
 ·rw [← hM]; exact Ald h up (by omega) (by omega)
 ·exact Ald h 1 (by rw [hq]; omega) (by omega)
 ·rw [hq, ht]
  intro h1
  have k1 := key 0 (by rw [if_pos h1])
  rw [Nat.add_zero, Nat.mul_comm 2 q] at k1
  exact Lh (fun W A1 n1 c1 h => by rw [← k1]; exact Ur h (by omega) a (b + 1) (-(up : Int) - 1) (by omega) (by omega) (by omega))
 ·rw [hq, ht]
  intro h1
  have k1 := key 1 (by rw [if_neg h1])
  rw [Nat.mul_comm 2 q] at k1
  exact Lh (fun W A1 n1 c1 h => by rw [← k1]; exact Ur h (by omega) a (b + 1) (-(up : Int) - 1) (by omega) (by omega) (by omega))
theorem Ls (m k : Nat) (hb : bln m ≤ 3300) (hk : k ≤ 1300) : ∃ (D M : Nat),
  Hid (∀ W, Cp 196 #[.int .i64 (k : Nat)] W (NRet D W)) ∧
  Hid (∀ W A1 n1 c1 A2 n2 c2, NV W A1 n1 c1 m → NV W A2 n2 c2 D → Cp 138 #[.slice A1 n1 c1, .slice A2 n2 c2] W (NRet M W)) ∧
  Hid (∀ W A1 n1 c1, NV W A1 n1 c1 M → Ct 139 #[.slice A1 n1 c1, .int .i64 0] (.float .f64 (Bg m (k : Int))) W) := by
 have ft := Ek k
 have g1 := Cr m (10 ^ k)
 refine ⟨10 ^ k, m * 10 ^ k, Lh (fun W => Gm k W (by omega)), Lh (fun W A1 n1 c1 A2 n2 c2 h g => Gr h g (by omega) (by omega)), Lh (fun W A1 n1 c1 h => ?_)⟩
 obtain ⟨K, hK, hd⟩ := Fz
 have := Ur h (by omega) K 0 0 (by omega) (by omega) (by omega)
 rw [hd, show ((k : Int)).toNat = k by omega, show (-(k : Int)).toNat = 0 by omega]
 exact this
theorem Zr (s : ByteArray) (K N : Nat) (X P : Int) (m : Nat) (w : World) (hs : s.size ≤ 281474976710656) (hK : K ≤ s.size) (hN : s.size - K = N)
  (Z1 : Hid (∀ k (h : k < s.size), k < K → (s[k]'h).toNat = 48)) (Z2 : Hid (∀ h : K < s.size, (s[K]'h).toNat ≠ 48))
  (hN0 : 0 < N) (p1 : wrap64 ((N : Int) + X) = P) (t0 : ((N : Int) == 0) = false) (t1 : decide (400 < P) = false) (t2 : decide (P < -400) = false) (t3 : decide (820 < (N : Int)) = false)
  (C3 : Hid (∀ W, Cp 195 #[.string (s.extract K s.size), .int .i64 10] W (NOk m W))) (h0 : 0 < m) (hb : bln m ≤ 3300) (hE1 : -1300 ≤ X) (hE2 : X ≤ 1300) :
  Ct 141 #[.string s, .int .i64 X] (.float .f64 (Bg m X)) w := by
 by_cases hp : 0 ≤ X
 ·obtain ⟨k, rfl⟩ : ∃ k : Nat, X = k := ⟨X.toNat, by omega⟩
  obtain ⟨D, M, C4, C5, C6⟩ := Ls m k hb (by omega)
  exact Od (w := w) (hs := hs) (hK := hK) (hN := hN) (Z1 := Z1) (Z2 := Z2) (C3 := C3) (C4 := C4) (C5 := C5) (C6 := C6) (u0 := decide_eq_true hp) (hN0 := hN0) (p1 := p1) (t0 := t0) (t1 := t1) (t2 := t2) (t3 := t3)
 ·obtain ⟨k, rfl⟩ : ∃ k : Nat, X = -(k : Int) := ⟨(-X).toNat, by omega⟩
  obtain ⟨D, M, bd, ba, U, hU, e1, e2, C4, C5, C6, C7, C8, C9, C10, C11, C12⟩ := Lu m k h0 hb (by omega)
  rw [show (k : Int) = -(-(k : Int)) by omega] at C4
  have u0 : decide (0 ≤ -(k : Int)) = false := decide_eq_false hp
  have u1 : wrap64 (- -(k : Int)) = - -(k : Int) := by unfold wrap64; omega
  have u2 : wrap64 ((bd : Int) - (ba : Int)) = (bd : Int) - ba := by unfold wrap64; omega
  have u3 : wrap64 ((bd : Int) - ba + 70) = (bd : Int) - ba + 70 := by unfold wrap64; omega
  have hu : (decide ((bd : Int) - ba + 70 < 0) = false ∧ U = (bd : Int) - ba + 70 ∧ wrap64 (-((bd : Int) - ba + 70)) = -((bd : Int) - ba + 70) ∧ wrap64 (-((bd : Int) - ba + 70) - 1) = -U - 1) ∨ (decide ((bd : Int) - ba + 70 < 0) = true ∧ U = 0 ∧ -U - 1 = -1) := by
   by_cases hU0 : (bd : Int) - ba + 70 < 0
   ·exact .inr ⟨decide_eq_true hU0, by omega, by omega⟩
   ·exact .inl ⟨decide_eq_false hU0, by omega, by unfold wrap64; omega, by unfold wrap64; omega⟩
  by_cases hr : M % D = 0
  ·exact M9 (w := w) (hs := hs) (hK := hK) (hN := hN) (Z1 := Z1) (Z2 := Z2) (C3 := C3) (C4 := C4) (C5 := C5) (C6 := C6) (C7 := C7) (C8 := C8) (C9 := C9) (C11 := C11 hr) (hrem := hr) (u0 := u0) (u1 := u1) (u2 := u2) (u3 := u3) (hu := hu) (hN0 := hN0) (p1 := p1) (t0 := t0) (t1 := t1) (t2 := t2) (t3 := t3)
  ·exact Ms (w := w) (hs := hs) (hK := hK) (hN := hN) (Z1 := Z1) (Z2 := Z2) (C3 := C3) (C4 := C4) (C5 := C5) (C6 := C6) (C7 := C7) (C8 := C8) (C9 := C9) (C10 := C10) (C11 := C12 hr) (hrem := hr) (u0 := u0) (u1 := u1) (u2 := u2) (u3 := u3) (hu := hu) (hN0 := hN0) (p1 := p1) (t0 := t0) (t1 := t1) (t2 := t2) (t3 := t3)
theorem Zu (s : ByteArray) (K N : Nat) (X P : Int) (m : Nat) (g : ByteArray) (y1 : Int) (E : Int) (w : World) (hs : s.size ≤ 281474976710656) (hK : K ≤ s.size) (hN : s.size - K = N)
  (Z1 : Hid (∀ k (h : k < s.size), k < K → (s[k]'h).toNat = 48)) (Z2 : Hid (∀ h : K < s.size, (s[K]'h).toNat ≠ 48))
  (hN0 : 0 < N) (p1 : wrap64 ((N : Int) + X) = P) (t0 : ((N : Int) == 0) = false) (t1 : decide (400 < P) = false) (t2 : decide (P < -400) = false) (t3 : decide (820 < (N : Int)) = true)
  (hg : s.extract K s.size = g) (hgN : g.size = N) (hN8 : 820 < N) (hrb : ((bl g).drop 810).any (· != 48) = false)
  (q0 : wrap64 (X + (N : Int)) = y1) (q1 : wrap64 (y1 - 810) = E)
  (C3 : Hid (∀ W, Cp 195 #[.string (g.extract 0 810), .int .i64 10] W (NOk m W))) (h0 : 0 < m) (hb : bln m ≤ 3300) (hE1 : -1300 ≤ E) (hE2 : E ≤ 1300) :
  Ct 141 #[.string s, .int .i64 X] (.float .f64 (Bg m E)) w := by
 by_cases hp : 0 ≤ E
 ·obtain ⟨k, rfl⟩ : ∃ k : Nat, E = k := ⟨E.toNat, by omega⟩
  obtain ⟨D, M, C4, C5, C6⟩ := Ls m k hb (by omega)
  exact Pu (w := w) (hs := hs) (hK := hK) (hN := hN) (Z1 := Z1) (Z2 := Z2) (C3 := C3) (C4 := C4) (C5 := C5) (C6 := C6) (u0 := decide_eq_true hp) (hN0 := hN0) (p1 := p1) (t0 := t0) (t1 := t1) (t2 := t2) (t3 := t3) (hg := hg) (hgN := hgN) (hN8 := hN8) (hrb := hrb) (q0 := q0) (q1 := q1)
 ·obtain ⟨k, rfl⟩ : ∃ k : Nat, E = -(k : Int) := ⟨(-E).toNat, by omega⟩
  obtain ⟨D, M, bd, ba, U, hU, e1, e2, C4, C5, C6, C7, C8, C9, C10, C11, C12⟩ := Lu m k h0 hb (by omega)
  rw [show (k : Int) = -(-(k : Int)) by omega] at C4
  have u0 : decide (0 ≤ -(k : Int)) = false := decide_eq_false hp
  have u1 : wrap64 (- -(k : Int)) = - -(k : Int) := by unfold wrap64; omega
  have u2 : wrap64 ((bd : Int) - (ba : Int)) = (bd : Int) - ba := by unfold wrap64; omega
  have u3 : wrap64 ((bd : Int) - ba + 70) = (bd : Int) - ba + 70 := by unfold wrap64; omega
  have hu : (decide ((bd : Int) - ba + 70 < 0) = false ∧ U = (bd : Int) - ba + 70 ∧ wrap64 (-((bd : Int) - ba + 70)) = -((bd : Int) - ba + 70) ∧ wrap64 (-((bd : Int) - ba + 70) - 1) = -U - 1) ∨ (decide ((bd : Int) - ba + 70 < 0) = true ∧ U = 0 ∧ -U - 1 = -1) := by
   by_cases hU0 : (bd : Int) - ba + 70 < 0
   ·exact .inr ⟨decide_eq_true hU0, by omega, by omega⟩
   ·exact .inl ⟨decide_eq_false hU0, by omega, by unfold wrap64; omega, by unfold wrap64; omega⟩
  by_cases hr : M % D = 0
  ·exact Nb (w := w) (hs := hs) (hK := hK) (hN := hN) (Z1 := Z1) (Z2 := Z2) (C3 := C3) (C4 := C4) (C5 := C5) (C6 := C6) (C7 := C7) (C8 := C8) (C9 := C9) (C11 := C11 hr) (hrem := hr) (u0 := u0) (u1 := u1) (u2 := u2) (u3 := u3) (hu := hu) (hN0 := hN0) (p1 := p1) (t0 := t0) (t1 := t1) (t2 := t2) (t3 := t3) (hg := hg) (hgN := hgN) (hN8 := hN8) (hrb := hrb) (q0 := q0) (q1 := q1)
  ·exact Mv (w := w) (hs := hs) (hK := hK) (hN := hN) (Z1 := Z1) (Z2 := Z2) (C3 := C3) (C4 := C4) (C5 := C5) (C6 := C6) (C7 := C7) (C8 := C8) (C9 := C9) (C10 := C10) (C11 := C12 hr) (hrem := hr) (u0 := u0) (u1 := u1) (u2 := u2) (u3 := u3) (hu := hu) (hN0 := hN0) (p1 := p1) (t0 := t0) (t1 := t1) (t2 := t2) (t3 := t3) (hg := hg) (hgN := hgN) (hN8 := hN8) (hrb := hrb) (q0 := q0) (q1 := q1)
theorem Abv (s : ByteArray) (K N : Nat) (X P : Int) (m : Nat) (g : ByteArray) (y1 y2 : Int) (E : Int) (w : World) (hs : s.size ≤ 281474976710656) (hK : K ≤ s.size) (hN : s.size - K = N)
  (Z1 : Hid (∀ k (h : k < s.size), k < K → (s[k]'h).toNat = 48)) (Z2 : Hid (∀ h : K < s.size, (s[K]'h).toNat ≠ 48))
  (hN0 : 0 < N) (p1 : wrap64 ((N : Int) + X) = P) (t0 : ((N : Int) == 0) = false) (t1 : decide (400 < P) = false) (t2 : decide (P < -400) = false) (t3 : decide (820 < (N : Int)) = true)
  (hg : s.extract K s.size = g) (hgN : g.size = N) (hN8 : 820 < N) (hrb : ((bl g).drop 810).any (· != 48) = true)
  (q0 : wrap64 (X + (N : Int)) = y1) (q1 : wrap64 (y1 - 810) = y2) (q2 : wrap64 (y2 - 1) = E) (q3 : ¬ 9223372036854775807 < (g.extract 0 810).size + 1)
  (C3 : Hid (∀ W, Cp 195 #[.string (g.extract 0 810 ++ ⟨#[49]⟩), .int .i64 10] W (NOk m W))) (h0 : 0 < m) (hb : bln m ≤ 3300) (hE1 : -1300 ≤ E) (hE2 : E ≤ 1300) :
  Ct 141 #[.string s, .int .i64 X] (.float .f64 (Bg m E)) w := by
 by_cases hp : 0 ≤ E
 ·obtain ⟨k, rfl⟩ : ∃ k : Nat, E = k := ⟨E.toNat, by omega⟩
  obtain ⟨D, M, C4, C5, C6⟩ := Ls m k hb (by omega)
  exact Px (w := w) (hs := hs) (hK := hK) (hN := hN) (Z1 := Z1) (Z2 := Z2) (C3 := C3) (C4 := C4) (C5 := C5) (C6 := C6) (u0 := decide_eq_true hp) (hN0 := hN0) (p1 := p1) (t0 := t0) (t1 := t1) (t2 := t2) (t3 := t3) (hg := hg) (hgN := hgN) (hN8 := hN8) (hrb := hrb) (q0 := q0) (q1 := q1) (q2 := q2) (_q3 := q3)
 ·obtain ⟨k, rfl⟩ : ∃ k : Nat, E = -(k : Int) := ⟨(-E).toNat, by omega⟩
  obtain ⟨D, M, bd, ba, U, hU, e1, e2, C4, C5, C6, C7, C8, C9, C10, C11, C12⟩ := Lu m k h0 hb (by omega)
  rw [show (k : Int) = -(-(k : Int)) by omega] at C4
  have u0 : decide (0 ≤ -(k : Int)) = false := decide_eq_false hp
  have u1 : wrap64 (- -(k : Int)) = - -(k : Int) := by unfold wrap64; omega
  have u2 : wrap64 ((bd : Int) - (ba : Int)) = (bd : Int) - ba := by unfold wrap64; omega
  have u3 : wrap64 ((bd : Int) - ba + 70) = (bd : Int) - ba + 70 := by unfold wrap64; omega
  have hu : (decide ((bd : Int) - ba + 70 < 0) = false ∧ U = (bd : Int) - ba + 70 ∧ wrap64 (-((bd : Int) - ba + 70)) = -((bd : Int) - ba + 70) ∧ wrap64 (-((bd : Int) - ba + 70) - 1) = -U - 1) ∨ (decide ((bd : Int) - ba + 70 < 0) = true ∧ U = 0 ∧ -U - 1 = -1) := by
   by_cases hU0 : (bd : Int) - ba + 70 < 0
   ·exact .inr ⟨decide_eq_true hU0, by omega, by omega⟩
   ·exact .inl ⟨decide_eq_false hU0, by omega, by unfold wrap64; omega, by unfold wrap64; omega⟩
  by_cases hr : M % D = 0
  ·exact M8 (w := w) (hs := hs) (hK := hK) (hN := hN) (Z1 := Z1) (Z2 := Z2) (C3 := C3) (C4 := C4) (C5 := C5) (C6 := C6) (C7 := C7) (C8 := C8) (C9 := C9) (C11 := C11 hr) (hrem := hr) (u0 := u0) (u1 := u1) (u2 := u2) (u3 := u3) (hu := hu) (hN0 := hN0) (p1 := p1) (t0 := t0) (t1 := t1) (t2 := t2) (t3 := t3) (hg := hg) (hgN := hgN) (hN8 := hN8) (hrb := hrb) (q0 := q0) (q1 := q1) (q2 := q2) (_q3 := q3)
  ·exact Na (w := w) (hs := hs) (hK := hK) (hN := hN) (Z1 := Z1) (Z2 := Z2) (C3 := C3) (C4 := C4) (C5 := C5) (C6 := C6) (C7 := C7) (C8 := C8) (C9 := C9) (C10 := C10) (C11 := C12 hr) (hrem := hr) (u0 := u0) (u1 := u1) (u2 := u2) (u3 := u3) (hu := hu) (hN0 := hN0) (p1 := p1) (t0 := t0) (t1 := t1) (t2 := t2) (t3 := t3) (hg := hg) (hgN := hgN) (hN8 := hN8) (hrb := hrb) (q0 := q0) (q1 := q1) (q2 := q2) (_q3 := q3)
theorem Ju (l : List Nat) (w : World) (hd : ∀ c ∈ l, Bw c = true) (h0 : l ≠ []) (hl : l.length ≤ 820) : Cp 195 #[.string (Ab l), .int .i64 10] w (NOk (num 10 l) w) := by
 have hb := Aj (Gu hd)
 have hz := Af l
 have hp : 0 < l.length := List.length_pos_iff.2 h0
 have h := Afm (Ab l) 10 w (by omega) (by omega) (by omega) (fun i hi => by
  rw [Uh _ _ hi, hb, List.getD_eq_getElem?_getD, List.getElem?_eq_getElem (by omega)]
  exact (I0 (hd _ (List.getElem_mem _))).2) (by omega)
 rw [Sr, hb] at h
 refine h.mono fun e w' x => NOk.of (Cu ?_) x
 have h1 := Hm hd
 have h2 := Ce (Nat.le_of_lt h1)
 have h3 := Ek l.length
 omega
theorem Oj {l : List Nat} (hd : ∀ c ∈ l, Bw c = true) (hl : l.length ≤ 820) : bln (num 10 l) ≤ 3300 := by
 have h2 := Ce (Nat.le_of_lt (Hm hd))
 have h3 := Ek l.length
 omega
theorem Wv (f : List Nat) : f.drop (f.length - (ldz f).length) = ldz f := by
 obtain ⟨z, hz⟩ := Dj f
 have hz' : f = List.replicate z 48 ++ ldz f := hz
 have hl := congrArg List.length hz'
 rw [List.length_append, List.length_replicate] at hl
 rw [show f.length - (ldz f).length = z by omega]
 conv => lhs; rw [hz']
 rw [List.drop_append, List.drop_of_length_le (by simp)]
 simp
theorem Rm (f : List Nat) (k : Nat) (h : k < f.length - (ldz f).length) : f[k]? = some 48 := by
 obtain ⟨z, hz⟩ := Dj f
 have hz' : f = List.replicate z 48 ++ ldz f := hz
 have hl := congrArg List.length hz'
 rw [List.length_append, List.length_replicate] at hl
 rw [hz', List.getElem?_append_left (by rw [List.length_replicate]; omega), List.getElem?_replicate, if_pos (by omega)]
theorem Ev (f : List Nat) (X : Int) (w : World) (hd : ∀ c ∈ f, Bw c = true) (hl : f.length ≤ 281474976710656) (hX : -1125899906842624 < X ∧ X < 1125899906842624) :
  Ct 141 #[.string (Ab f), .int .i64 X] (.float .f64 (Bg (num 10 f) X)) w := by
 have hb := Aj (Gu hd)
 have hz := Af f
 have hg : ∀ c ∈ ldz f, Bw c = true := fun c hc => hd c (Fd hc)
 have hgl : (ldz f).length ≤ f.length := (List.dropWhile_sublist _).length_le
 have hdr := Wv f
 have hex : (Ab f).extract (f.length - (ldz f).length) (Ab f).size = Ab (ldz f) := by rw [Ez, hb, hdr]
 have hnum : num 10 (ldz f) = num 10 f := Cy 10 f
 have Z1 : Hid (∀ k (h : k < (Ab f).size), k < f.length - (ldz f).length → ((Ab f)[k]'h).toNat = 48) := Lh (fun k h hk => by
  have h1 := De (Ab f) k h
  rw [hb, Rm f k hk] at h1
  exact (Option.some.inj h1).symm)
 have Z2 : Hid (∀ h : f.length - (ldz f).length < (Ab f).size, ((Ab f)[f.length - (ldz f).length]'h).toNat ≠ 48) := Lh (fun h e => by
  have h1 := De (Ab f) _ h
  rw [hb, e] at h1
  have h2 : (f.drop (f.length - (ldz f).length)).head? = some 48 := by rw [List.head?_drop]; exact h1
  rw [hdr] at h2
  exact Cf f h2)
 obtain ⟨N, hN⟩ : ∃ N, (ldz f).length = N := ⟨_, rfl⟩
 obtain ⟨K, hK⟩ : ∃ K, f.length - (ldz f).length = K := ⟨_, rfl⟩
 rw [hK] at hex Z1 Z2
 have a1 : (Ab f).size ≤ 281474976710656 := by omega
 have a2 : K ≤ (Ab f).size := by omega
 have a3 : (Ab f).size - K = N := by omega
 by_cases h0 : N = 0
 ·have : ldz f = [] := List.length_eq_zero_iff.1 (by omega)
  rw [show Bg (num 10 f) X = 0 by rw [← hnum, this, Ac4, Sc]]
  exact Aga (Ab f) K N X w a1 a2 a3 Z1 Z2 h0
 ·have hne : ldz f ≠ [] := fun e => h0 (by rw [← hN, e]; rfl)
  have p1 : wrap64 ((N : Int) + X) = (N : Int) + X := by unfold wrap64; omega
  have t0 : ((N : Int) == 0) = false := by rw [beq_eq_false_iff_ne]; omega
  by_cases h1 : 400 < (N : Int) + X
  ·rw [Ae8 hd hne (by omega)]
   exact Ad4 (Ab f) K N X _ w a1 a2 a3 Z1 Z2 (by omega) p1 t0 (decide_eq_true h1)
  ·by_cases h2 : (N : Int) + X < -400
   ·rw [← hnum, Se (Hm hg) (by omega)]
    exact Aig (Ab f) K N X _ w a1 a2 a3 Z1 Z2 (by omega) p1 t0 (decide_eq_false h1) (decide_eq_true h2)
   ·by_cases h3 : 820 < (N : Int)
    ·have hlen : (Ab (ldz f)).size = N := by rw [Af, hN]
     have hbg := Aj (Gu hg)
     have q0 : wrap64 (X + (N : Int)) = X + N := by unfold wrap64; omega
     have hlt : ((ldz f).take 810).length = 810 := by rw [List.length_take]; omega
     have htd : ∀ c ∈ (ldz f).take 810, Bw c = true := fun c hc => hg c (List.mem_of_mem_take hc)
     have ht0 : (ldz f).take 810 ≠ [] := fun e => by rw [e] at hlt; simp at hlt
     have hth : ((ldz f).take 810).head? ≠ some 48 := by rw [So (by omega)]; exact Cf f
     have hx8 : (Ab (ldz f)).extract 0 810 = Ab ((ldz f).take 810) := by rw [Dv, hbg]
     cases hrb : ((ldz f).drop 810).any (· != 48)
     ·have hc : ∀ c ∈ (ldz f).drop 810, c = 48 := fun c hc => by
       have := List.any_eq_false.1 hrb c hc
       simpa using this
      rw [Aen hc, hN, show X + ((N - 810 : Nat) : Int) = X + N - 810 by omega]
      have C3 : Hid (∀ W, Cp 195 #[.string ((Ab (ldz f)).extract 0 810), .int .i64 10] W (NOk (num 10 ((ldz f).take 810)) W)) := Lh (fun W => by
       rw [hx8]
       exact Ju _ W htd ht0 (by omega))
      exact Zu (Ab f) K N X _ (num 10 ((ldz f).take 810)) (Ab (ldz f)) (X + N) (X + N - 810) w a1 a2 a3 Z1 Z2 (by omega) p1 t0 (decide_eq_false h1) (decide_eq_false h2) (decide_eq_true h3) hex hlen (by omega) (by rw [hbg]; exact hrb) q0 (by unfold wrap64; omega) C3
       (Nat.lt_of_lt_of_le (Ar _) (Hk htd ht0 hth)) (Oj htd (by omega)) (by omega) (by omega)
     ·obtain ⟨c, hc1, hc2⟩ := List.any_eq_true.1 hrb
      rw [Afz hd (by omega) (by omega) ⟨c, hc1, by simpa using hc2⟩, hN, show X + ((N - 810 : Nat) : Int) - 1 = X + N - 810 - 1 by omega]
      obtain ⟨l, hl2⟩ : ∃ l, (ldz f).take 810 ++ [49] = l := ⟨_, rfl⟩
      have ll : l.length = 811 := by rw [← hl2, List.length_append, hlt]; rfl
      have ld : ∀ c ∈ l, Bw c = true := by
       intro c hc
       rw [← hl2] at hc
       rcases List.mem_append.1 hc with h | h
       ·exact htd c h
       ·rw [List.mem_singleton.1 h]; rfl
      have l0 : l ≠ [] := fun e => by rw [e] at ll; simp at ll
      have lh : l.head? ≠ some 48 := by
       rw [← hl2]
       cases ht : (ldz f).take 810 with
       | nil => exact absurd ht ht0
       | cons a b =>
        rw [ht] at hth
        exact hth
      have hstr : (Ab (ldz f)).extract 0 810 ++ (⟨#[49]⟩ : ByteArray) = Ab l := by
       rw [hx8, ← hl2, ← Ai]
       rfl
      rw [hl2]
      have C3 : Hid (∀ W, Cp 195 #[.string ((Ab (ldz f)).extract 0 810 ++ ⟨#[49]⟩), .int .i64 10] W (NOk (num 10 l) W)) := Lh (fun W => by
       rw [hstr]
       exact Ju _ W ld l0 (by omega))
      exact Abv (Ab f) K N X _ (num 10 l) (Ab (ldz f)) (X + N) (X + N - 810) (X + N - 810 - 1) w a1 a2 a3 Z1 Z2 (by omega) p1 t0 (decide_eq_false h1) (decide_eq_false h2) (decide_eq_true h3) hex hlen (by omega) (by rw [hbg]; exact hrb) q0 (by unfold wrap64; omega) (by unfold wrap64; omega) (by rw [hx8, Af]; omega) C3
       (Nat.lt_of_lt_of_le (Ar _) (Hk ld l0 lh)) (Oj ld (by omega)) (by omega) (by omega)
    ·rw [← hnum]
     have C3 : Hid (∀ W, Cp 195 #[.string ((Ab f).extract K (Ab f).size), .int .i64 10] W (NOk (num 10 (ldz f)) W)) := Lh (fun W => by
      rw [hex]
      exact Ju _ W hg hne (by omega))
     exact Zr (Ab f) K N X _ (num 10 (ldz f)) w a1 a2 a3 Z1 Z2 (by omega) p1 t0 (decide_eq_false h1) (decide_eq_false h2) (decide_eq_false h3) C3
      (Nat.lt_of_lt_of_le (Ar _) (Hk hg hne (Cf f))) (Oj hg (by omega)) (by omega) (by omega)
end
section
theorem Ri : ∀ (g : List Nat) (n : Nat), 1099511627776 ≤ n → g.foldl Qi n = n
 | [], _, _ => rfl
 | c :: g, n, h => by
  have : Qi n c = n := if_neg (by omega)
  rw [List.foldl_cons, this]
  exact Ri g n h
theorem Hd (f : List Nat) (j : Nat) (h : 1099511627776 ≤ amt (f.take j)) : amt f = amt (f.take j) := by
 conv => lhs; rw [← List.take_append_drop j f]
 unfold amt at h ⊢
 rw [List.foldl_append]
 exact Ri _ _ h
end
section
theorem Af8 (s G : ByteArray) (at' F : Nat) (E : Int) (w : World) (hs : s.size ≤ 140737488355328)  (ha : at' = s.size)
  (C2 : Hid (∀ W, Ct 141 #[.string G, .int .i64 E] (.float .f64 F) W)) :
  Ct 111 #[.string s, .int .i64 (at' : Nat), .string G, .int .i64 E] (.tuple #[.int .i64 (at' : Nat), .float .f64 F]) w := by
 have h1 : (s.size : Int) ≤ 140737488355328 := by omega
 have a1 : (0 : Int) ≤ (at' : Int) := by omega
 have t0 : ¬ (at' : Int) < (s.size : Int) := by omega
 have a2 : (at' : Int) ≤ 140737488355328 := by omega
 clear hs ha
 go_enter Tryz.func111, Tryz.ntmps111
 go_wp2_with fail
 refine (C2.out _).mono ?_
 rintro e w' ⟨rfl, hb⟩
 go_wp2
 go_ret2
 exact ⟨rfl, hb⟩
theorem Zo (s G : ByteArray) (at' F : Nat) (E : Int) (w : World) (hs : s.size ≤ 140737488355328)  (B : Nat) (h : at' < s.size) (hB : (s[at']'h).toNat = B) (n1 : B ≠ 101) (n2 : B ≠ 69)
  (C2 : Hid (∀ W, Ct 141 #[.string G, .int .i64 E] (.float .f64 F) W)) :
  Ct 111 #[.string s, .int .i64 (at' : Nat), .string G, .int .i64 E] (.tuple #[.int .i64 (at' : Nat), .float .f64 F]) w := by
 have h1 : (s.size : Int) ≤ 140737488355328 := by omega
 have a1 : (0 : Int) ≤ (at' : Int) := by omega
 have a2 : (at' : Int) < (s.size : Int) := by omega
 have e0 : ((s[at']'h).toNat : Int) = (B : Int) := by rw [hB]
 have e1 : ((B : Int) == 101) = false := by rw [beq_eq_false_iff_ne]; omega
 have e2 : ((B : Int) == 69) = false := by rw [beq_eq_false_iff_ne]; omega
 clear hs hB n1 n2
 go_enter Tryz.func111, Tryz.ntmps111
 go_wp2_with fail
 refine (C2.out _).mono ?_
 rintro e w' ⟨rfl, hb⟩
 go_wp2
 go_ret2
 exact ⟨rfl, hb⟩
theorem K8 (s G : ByteArray) (at' F : Nat) (E : Int) (w : World) (hs : s.size ≤ 140737488355328)  (h : at' < s.size) (hc : (s[at']'h).toNat = 101) (g : at' + 1 = s.size)
  (C1 : Hid (∀ W, Cq 110 #[.string s, .int .i64 ((at' : Int) + 1)] (.int .i64 0) W))
  (C2 : Hid (∀ W, Ct 141 #[.string G, .int .i64 E] (.float .f64 F) W)) :
  Ct 111 #[.string s, .int .i64 (at' : Nat), .string G, .int .i64 E] (.tuple #[.int .i64 (at' : Nat), .float .f64 F]) w := by
 have h1 : (s.size : Int) ≤ 140737488355328 := by omega
 have a1 : (0 : Int) ≤ (at' : Int) := by omega
 have a2 : (at' : Int) < (s.size : Int) := by omega
 have e0 : ((s[at']'h).toNat : Int) = 101 := by rw [hc]; rfl
 have t0 : decide ((at' : Int) + 1 < (s.size : Int)) = false := decide_eq_false (by omega)
 clear hs hc g
 go_enter Tryz.func111, Tryz.ntmps111
 go_wp2_with fail
 refine Sm (C1.out _) ?_
 go_wp2_with fail
 refine (C2.out _).mono ?_
 rintro e w' ⟨rfl, hb⟩
 go_wp2
 go_ret2
 exact ⟨rfl, hb⟩
theorem J5 (s G : ByteArray) (at' F : Nat) (E : Int) (w : World) (hs : s.size ≤ 140737488355328)  (B : Nat) (h : at' < s.size) (hc : (s[at']'h).toNat = 101) (g : at' + 1 < s.size) (hB : (s[at' + 1]'g).toNat = B) (n1 : B ≠ 45) (n2 : B ≠ 43)
  (C1 : Hid (∀ W, Cq 110 #[.string s, .int .i64 ((at' : Int) + 1)] (.int .i64 0) W))
  (C2 : Hid (∀ W, Ct 141 #[.string G, .int .i64 E] (.float .f64 F) W)) :
  Ct 111 #[.string s, .int .i64 (at' : Nat), .string G, .int .i64 E] (.tuple #[.int .i64 (at' : Nat), .float .f64 F]) w := by
 have h1 : (s.size : Int) ≤ 140737488355328 := by omega
 have a1 : (0 : Int) ≤ (at' : Int) := by omega
 have a2 : (at' : Int) < (s.size : Int) := by omega
 have e0 : ((s[at']'h).toNat : Int) = 101 := by rw [hc]; rfl
 have b1 : (0 : Int) ≤ (at' : Int) + 1 := by omega
 have b2 : (at' : Int) + 1 < (s.size : Int) := by omega
 have b3 : ((at' : Int) + 1).toNat = at' + 1 := by omega
 have e1 : ((s[at' + 1]'g).toNat : Int) = (B : Int) := by rw [hB]
 have e2 : ((B : Int) == 45) = false := by rw [beq_eq_false_iff_ne]; omega
 have e3 : ((B : Int) == 43) = false := by rw [beq_eq_false_iff_ne]; omega
 clear hs hc hB n1 n2
 go_enter Tryz.func111, Tryz.ntmps111
 go_wp2_with fail
 refine Sm (C1.out _) ?_
 go_wp2_with fail
 refine (C2.out _).mono ?_
 rintro e w' ⟨rfl, hb⟩
 go_wp2
 go_ret2
 exact ⟨rfl, hb⟩
theorem Kr (s G : ByteArray) (at' F : Nat) (E : Int) (w : World) (hs : s.size ≤ 140737488355328) (hE1 : -281474976710656 ≤ E) (hE2 : E ≤ 281474976710656) (B : Nat) (n : Nat) (R : List Nat) (h : at' < s.size) (hc : (s[at']'h).toNat = 101) (g : at' + 1 < s.size) (hB : (s[at' + 1]'g).toNat = B) (n1 : B ≠ 45) (n2 : B ≠ 43) (hn0 : 0 < n) (hR : R.length = n) (hd : ∀ c ∈ R, Bw c = true) (hRs : ∀ j, j < n → ∃ hj : at' + 1 + j < s.size, R[j]? = some (s[at' + 1 + j]'hj).toNat)
  (C1 : Hid (∀ W, Cq 110 #[.string s, .int .i64 ((at' : Int) + 1)] (.int .i64 (n : Nat)) W))
  (C2 : Hid (∀ W, Ct 141 #[.string G, .int .i64 (E + (amt R : Nat))] (.float .f64 F) W)) :
  Ct 111 #[.string s, .int .i64 (at' : Nat), .string G, .int .i64 E] (.tuple #[.int .i64 ((at' : Int) + 1 + (n : Int)), .float .f64 F]) w := by
 have h1 : (s.size : Int) ≤ 140737488355328 := by omega
 have a1 : (0 : Int) ≤ (at' : Int) := by omega
 have a2 : (at' : Int) < (s.size : Int) := by omega
 have e0 : ((s[at']'h).toNat : Int) = 101 := by rw [hc]; rfl
 have b1 : (0 : Int) ≤ (at' : Int) + 1 := by omega
 have b2 : (at' : Int) + 1 < (s.size : Int) := by omega
 have b3 : ((at' : Int) + 1).toNat = at' + 1 := by omega
 have e1 : ((s[at' + 1]'g).toNat : Int) = (B : Int) := by rw [hB]
 have e2 : ((B : Int) == 45) = false := by rw [beq_eq_false_iff_ne]; omega
 have e3 : ((B : Int) == 43) = false := by rw [beq_eq_false_iff_ne]; omega
 have hnl : n ≤ s.size := by
  obtain ⟨x, _⟩ := hRs (n - 1) (by omega)
  omega
 have n3 : (n : Int) ≤ (s.size : Int) := by omega
 have n4 : (0 : Int) < (n : Int) := by omega
 have HD := Lh hd
 have HR := Lh hR
 have HRS := Lh hRs
 clear hd hR hRs hn0 hnl
 clear hs hc hB n1 n2
 go_enter Tryz.func111, Tryz.ntmps111
 go_wp2_with fail
 refine Sm (C1.out _) ?_
 go_wp2
 clear e0 e1 e2 e3 n4
 go_loopw [13, 14] (fun x i wr => ∃ j : Nat, i = .int .i64 j ∧ j ≤ n ∧ x = .int .i64 (amt (R.take j) : Nat) ∧ w = wr) (fun _ i _ => n - (intOf i).toNat)
 case atStart => exact ⟨0, rfl, Nat.zero_le _, rfl, rfl⟩
 case round =>
  obtain ⟨j, rfl, hj, rfl, rfl⟩ := hrel
  obtain ⟨N, hN⟩ : ∃ N, amt (R.take j) = N := ⟨_, rfl⟩
  have hNl : N < 10995116277760 := by rw [← hN]; exact Hs _ (fun c hc => HD.out c (List.mem_of_mem_take hc))
  have hNl2 : (N : Int) < 10995116277760 := by omega
  have HN := Lh hN
  rw [hN]
  clear hN
  by_cases hlt : j < n
  ·have l1 : (j : Int) < (n : Int) := by omega
   by_cases hst : N < 1099511627776
   ·obtain ⟨hx, hget⟩ := HRS.out j hlt
    obtain ⟨B9, hB9⟩ : ∃ B9 : Nat, (s[at' + 1 + j]'hx).toNat = B9 := ⟨_, rfl⟩
    rw [hB9] at hget
    have hdB := Bu.1 (HD.out B9 (List.mem_of_getElem? hget))
    have hstep : amt (R.take (j + 1)) = N * 10 + (B9 - 48) := by
     rw [List.take_add_one, hget]
     refine (Gl _ _).trans ?_
     rw [HN.out]
     exact if_pos hst
    obtain ⟨D, hD⟩ : ∃ D : Nat, B9 - 48 = D := ⟨_, rfl⟩
    obtain ⟨M, hM⟩ : ∃ M : Nat, N * 10 + D = M := ⟨_, rfl⟩
    have HS := Lh (show amt (R.take (j + 1)) = M from by rw [hstep, hD, hM])
    have l2 : (N : Int) < 1099511627776 := by omega
    have l3 : (0 : Int) ≤ (at' : Int) + 1 + (j : Int) := by omega
    have l4 : (at' : Int) + 1 + (j : Int) < (s.size : Int) := by omega
    have l5 : ((at' : Int) + 1 + (j : Int)).toNat = at' + 1 + j := by omega
    have l6 : ((s[at' + 1 + j]'hx).toNat : Int) = (B9 : Int) := by rw [hB9]
    have l7 : IntKind.u8.wrap ((B9 : Int) - 48) = (D : Int) := by rw [IntWalk.u8_in _ (by omega)]; omega
    have l8 : IntKind.i64.wrap (D : Int) = (D : Int) := IntWalk.i64_in _ (by omega)
    have l9 : (N : Int) * 10 + (D : Int) = (M : Int) := by omega
    have l10 : IntKind.i64.wrap ((N : Int) * 10) = (N : Int) * 10 := IntWalk.i64_in _ (by omega)
    have l11 : IntKind.i64.wrap ((N : Int) * 10 + (D : Int)) = (M : Int) := by rw [IntWalk.i64_in _ (by omega)]; omega
    clear hstep hD hM hdB hget hB9 hst l9 hNl
    go_wp2
    exact ⟨⟨j + 1, by go_num, by omega, by rw [HS.out], trivial⟩, by simp [intOf]; omega⟩
   ·have HZ := Lh (show amt R = N from by rw [Hd R j (by rw [HN.out]; omega), HN.out])
    have l2 : decide ((N : Int) < 1099511627776) = false := decide_eq_false (by omega)
    rw [HZ.out] at C2
    clear hst hNl
    go_wp2_with fail
    refine (C2.out _).mono ?_
    rintro e w' ⟨rfl, hb⟩
    go_wp2
    go_ret2
    exact ⟨rfl, hb⟩
  ·have HZ := Lh (show amt R = N from by rw [← HN.out, List.take_of_length_le (by rw [HR.out]; omega)])
   have l2 : ¬ (j : Int) < (n : Int) := by omega
   rw [HZ.out] at C2
   clear hlt hNl
   go_wp2_with fail
   refine (C2.out _).mono ?_
   rintro e w' ⟨rfl, hb⟩
   go_wp2
   go_ret2
   exact ⟨rfl, hb⟩
theorem Ki (s G : ByteArray) (at' F : Nat) (E : Int) (w : World) (hs : s.size ≤ 140737488355328)  (h : at' < s.size) (hc : (s[at']'h).toNat = 101) (g : at' + 1 < s.size) (hB : (s[at' + 1]'g).toNat = 45)
  (C1 : Hid (∀ W, Cq 110 #[.string s, .int .i64 ((at' : Int) + 1 + 1)] (.int .i64 0) W))
  (C2 : Hid (∀ W, Ct 141 #[.string G, .int .i64 E] (.float .f64 F) W)) :
  Ct 111 #[.string s, .int .i64 (at' : Nat), .string G, .int .i64 E] (.tuple #[.int .i64 (at' : Nat), .float .f64 F]) w := by
 have h1 : (s.size : Int) ≤ 140737488355328 := by omega
 have a1 : (0 : Int) ≤ (at' : Int) := by omega
 have a2 : (at' : Int) < (s.size : Int) := by omega
 have e0 : ((s[at']'h).toNat : Int) = 101 := by rw [hc]; rfl
 have b1 : (0 : Int) ≤ (at' : Int) + 1 := by omega
 have b2 : (at' : Int) + 1 < (s.size : Int) := by omega
 have b3 : ((at' : Int) + 1).toNat = at' + 1 := by omega
 have e1 : ((s[at' + 1]'g).toNat : Int) = 45 := by rw [hB]; rfl
 clear hs hc hB
 go_enter Tryz.func111, Tryz.ntmps111
 go_wp2_with fail
 refine Sm (C1.out _) ?_
 go_wp2_with fail
 refine (C2.out _).mono ?_
 rintro e w' ⟨rfl, hb⟩
 go_wp2
 go_ret2
 exact ⟨rfl, hb⟩
theorem J9 (s G : ByteArray) (at' F : Nat) (E : Int) (w : World) (hs : s.size ≤ 140737488355328) (hE1 : -281474976710656 ≤ E) (hE2 : E ≤ 281474976710656) (n : Nat) (R : List Nat) (h : at' < s.size) (hc : (s[at']'h).toNat = 101) (g : at' + 1 < s.size) (hB : (s[at' + 1]'g).toNat = 45) (hn0 : 0 < n) (hR : R.length = n) (hd : ∀ c ∈ R, Bw c = true) (hRs : ∀ j, j < n → ∃ hj : at' + 2 + j < s.size, R[j]? = some (s[at' + 2 + j]'hj).toNat)
  (C1 : Hid (∀ W, Cq 110 #[.string s, .int .i64 ((at' : Int) + 1 + 1)] (.int .i64 (n : Nat)) W))
  (C2 : Hid (∀ W, Ct 141 #[.string G, .int .i64 (E + -(amt R : Nat))] (.float .f64 F) W)) :
  Ct 111 #[.string s, .int .i64 (at' : Nat), .string G, .int .i64 E] (.tuple #[.int .i64 ((at' : Int) + 1 + 1 + (n : Int)), .float .f64 F]) w := by
 have h1 : (s.size : Int) ≤ 140737488355328 := by omega
 have a1 : (0 : Int) ≤ (at' : Int) := by omega
 have a2 : (at' : Int) < (s.size : Int) := by omega
 have e0 : ((s[at']'h).toNat : Int) = 101 := by rw [hc]; rfl
 have b1 : (0 : Int) ≤ (at' : Int) + 1 := by omega
 have b2 : (at' : Int) + 1 < (s.size : Int) := by omega
 have b3 : ((at' : Int) + 1).toNat = at' + 1 := by omega
 have e1 : ((s[at' + 1]'g).toNat : Int) = 45 := by rw [hB]; rfl
 have hnl : n ≤ s.size := by
  obtain ⟨x, _⟩ := hRs (n - 1) (by omega)
  omega
 have n3 : (n : Int) ≤ (s.size : Int) := by omega
 have n4 : (0 : Int) < (n : Int) := by omega
 have HD := Lh hd
 have HR := Lh hR
 have HRS := Lh hRs
 clear hd hR hRs hn0 hnl
 clear hs hc hB
 go_enter Tryz.func111, Tryz.ntmps111
 go_wp2_with fail
 refine Sm (C1.out _) ?_
 go_wp2
 clear e0 e1 n4
 go_loopw [13, 14] (fun x i wr => ∃ j : Nat, i = .int .i64 j ∧ j ≤ n ∧ x = .int .i64 (amt (R.take j) : Nat) ∧ w = wr) (fun _ i _ => n - (intOf i).toNat)
 case atStart => exact ⟨0, rfl, Nat.zero_le _, rfl, rfl⟩
 case round =>
  obtain ⟨j, rfl, hj, rfl, rfl⟩ := hrel
  obtain ⟨N, hN⟩ : ∃ N, amt (R.take j) = N := ⟨_, rfl⟩
  have hNl : N < 10995116277760 := by rw [← hN]; exact Hs _ (fun c hc => HD.out c (List.mem_of_mem_take hc))
  have hNl2 : (N : Int) < 10995116277760 := by omega
  have HN := Lh hN
  rw [hN]
  clear hN
  by_cases hlt : j < n
  ·have l1 : (j : Int) < (n : Int) := by omega
   by_cases hst : N < 1099511627776
   ·obtain ⟨hx, hget⟩ := HRS.out j hlt
    obtain ⟨B9, hB9⟩ : ∃ B9 : Nat, (s[at' + 2 + j]'hx).toNat = B9 := ⟨_, rfl⟩
    rw [hB9] at hget
    have hdB := Bu.1 (HD.out B9 (List.mem_of_getElem? hget))
    have hstep : amt (R.take (j + 1)) = N * 10 + (B9 - 48) := by
     rw [List.take_add_one, hget]
     refine (Gl _ _).trans ?_
     rw [HN.out]
     exact if_pos hst
    obtain ⟨D, hD⟩ : ∃ D : Nat, B9 - 48 = D := ⟨_, rfl⟩
    obtain ⟨M, hM⟩ : ∃ M : Nat, N * 10 + D = M := ⟨_, rfl⟩
    have HS := Lh (show amt (R.take (j + 1)) = M from by rw [hstep, hD, hM])
    have l2 : (N : Int) < 1099511627776 := by omega
    have l3 : (0 : Int) ≤ (at' : Int) + 1 + 1 + (j : Int) := by omega
    have l4 : (at' : Int) + 1 + 1 + (j : Int) < (s.size : Int) := by omega
    have l5 : ((at' : Int) + 1 + 1 + (j : Int)).toNat = at' + 2 + j := by omega
    have l6 : ((s[at' + 2 + j]'hx).toNat : Int) = (B9 : Int) := by rw [hB9]
    have l7 : IntKind.u8.wrap ((B9 : Int) - 48) = (D : Int) := by rw [IntWalk.u8_in _ (by omega)]; omega
    have l8 : IntKind.i64.wrap (D : Int) = (D : Int) := IntWalk.i64_in _ (by omega)
    have l9 : (N : Int) * 10 + (D : Int) = (M : Int) := by omega
    have l10 : IntKind.i64.wrap ((N : Int) * 10) = (N : Int) * 10 := IntWalk.i64_in _ (by omega)
    have l11 : IntKind.i64.wrap ((N : Int) * 10 + (D : Int)) = (M : Int) := by rw [IntWalk.i64_in _ (by omega)]; omega
    clear hstep hD hM hdB hget hB9 hst l9 hNl
    go_wp2
    exact ⟨⟨j + 1, by go_num, by omega, by rw [HS.out], trivial⟩, by simp [intOf]; omega⟩
   ·have HZ := Lh (show amt R = N from by rw [Hd R j (by rw [HN.out]; omega), HN.out])
    have l2 : decide ((N : Int) < 1099511627776) = false := decide_eq_false (by omega)
    rw [HZ.out] at C2
    clear hst hNl
    go_wp2_with fail
    refine (C2.out _).mono ?_
    rintro e w' ⟨rfl, hb⟩
    go_wp2
    go_ret2
    exact ⟨rfl, hb⟩
  ·have HZ := Lh (show amt R = N from by rw [← HN.out, List.take_of_length_le (by rw [HR.out]; omega)])
   have l2 : ¬ (j : Int) < (n : Int) := by omega
   rw [HZ.out] at C2
   clear hlt hNl
   go_wp2_with fail
   refine (C2.out _).mono ?_
   rintro e w' ⟨rfl, hb⟩
   go_wp2
   go_ret2
   exact ⟨rfl, hb⟩
theorem Lc (s G : ByteArray) (at' F : Nat) (E : Int) (w : World) (hs : s.size ≤ 140737488355328)  (h : at' < s.size) (hc : (s[at']'h).toNat = 101) (g : at' + 1 < s.size) (hB : (s[at' + 1]'g).toNat = 43)
  (C1 : Hid (∀ W, Cq 110 #[.string s, .int .i64 ((at' : Int) + 1 + 1)] (.int .i64 0) W))
  (C2 : Hid (∀ W, Ct 141 #[.string G, .int .i64 E] (.float .f64 F) W)) :
  Ct 111 #[.string s, .int .i64 (at' : Nat), .string G, .int .i64 E] (.tuple #[.int .i64 (at' : Nat), .float .f64 F]) w := by
 have h1 : (s.size : Int) ≤ 140737488355328 := by omega
 have a1 : (0 : Int) ≤ (at' : Int) := by omega
 have a2 : (at' : Int) < (s.size : Int) := by omega
 have e0 : ((s[at']'h).toNat : Int) = 101 := by rw [hc]; rfl
 have b1 : (0 : Int) ≤ (at' : Int) + 1 := by omega
 have b2 : (at' : Int) + 1 < (s.size : Int) := by omega
 have b3 : ((at' : Int) + 1).toNat = at' + 1 := by omega
 have e1 : ((s[at' + 1]'g).toNat : Int) = 43 := by rw [hB]; rfl
 clear hs hc hB
 go_enter Tryz.func111, Tryz.ntmps111
 go_wp2_with fail
 refine Sm (C1.out _) ?_
 go_wp2_with fail
 refine (C2.out _).mono ?_
 rintro e w' ⟨rfl, hb⟩
 go_wp2
 go_ret2
 exact ⟨rfl, hb⟩
theorem La (s G : ByteArray) (at' F : Nat) (E : Int) (w : World) (hs : s.size ≤ 140737488355328) (hE1 : -281474976710656 ≤ E) (hE2 : E ≤ 281474976710656) (n : Nat) (R : List Nat) (h : at' < s.size) (hc : (s[at']'h).toNat = 101) (g : at' + 1 < s.size) (hB : (s[at' + 1]'g).toNat = 43) (hn0 : 0 < n) (hR : R.length = n) (hd : ∀ c ∈ R, Bw c = true) (hRs : ∀ j, j < n → ∃ hj : at' + 2 + j < s.size, R[j]? = some (s[at' + 2 + j]'hj).toNat)
  (C1 : Hid (∀ W, Cq 110 #[.string s, .int .i64 ((at' : Int) + 1 + 1)] (.int .i64 (n : Nat)) W))
  (C2 : Hid (∀ W, Ct 141 #[.string G, .int .i64 (E + (amt R : Nat))] (.float .f64 F) W)) :
  Ct 111 #[.string s, .int .i64 (at' : Nat), .string G, .int .i64 E] (.tuple #[.int .i64 ((at' : Int) + 1 + 1 + (n : Int)), .float .f64 F]) w := by
 have h1 : (s.size : Int) ≤ 140737488355328 := by omega
 have a1 : (0 : Int) ≤ (at' : Int) := by omega
 have a2 : (at' : Int) < (s.size : Int) := by omega
 have e0 : ((s[at']'h).toNat : Int) = 101 := by rw [hc]; rfl
 have b1 : (0 : Int) ≤ (at' : Int) + 1 := by omega
 have b2 : (at' : Int) + 1 < (s.size : Int) := by omega
 have b3 : ((at' : Int) + 1).toNat = at' + 1 := by omega
 have e1 : ((s[at' + 1]'g).toNat : Int) = 43 := by rw [hB]; rfl
 have hnl : n ≤ s.size := by
  obtain ⟨x, _⟩ := hRs (n - 1) (by omega)
  omega
 have n3 : (n : Int) ≤ (s.size : Int) := by omega
 have n4 : (0 : Int) < (n : Int) := by omega
 have HD := Lh hd
 have HR := Lh hR
 have HRS := Lh hRs
 clear hd hR hRs hn0 hnl
 clear hs hc hB
 go_enter Tryz.func111, Tryz.ntmps111
 go_wp2_with fail
 refine Sm (C1.out _) ?_
 go_wp2
 clear e0 e1 n4
 go_loopw [13, 14] (fun x i wr => ∃ j : Nat, i = .int .i64 j ∧ j ≤ n ∧ x = .int .i64 (amt (R.take j) : Nat) ∧ w = wr) (fun _ i _ => n - (intOf i).toNat)
 case atStart => exact ⟨0, rfl, Nat.zero_le _, rfl, rfl⟩
 case round =>
  obtain ⟨j, rfl, hj, rfl, rfl⟩ := hrel
  obtain ⟨N, hN⟩ : ∃ N, amt (R.take j) = N := ⟨_, rfl⟩
  have hNl : N < 10995116277760 := by rw [← hN]; exact Hs _ (fun c hc => HD.out c (List.mem_of_mem_take hc))
  have hNl2 : (N : Int) < 10995116277760 := by omega
  have HN := Lh hN
  rw [hN]
  clear hN
  by_cases hlt : j < n
  ·have l1 : (j : Int) < (n : Int) := by omega
   by_cases hst : N < 1099511627776
   ·obtain ⟨hx, hget⟩ := HRS.out j hlt
    obtain ⟨B9, hB9⟩ : ∃ B9 : Nat, (s[at' + 2 + j]'hx).toNat = B9 := ⟨_, rfl⟩
    rw [hB9] at hget
    have hdB := Bu.1 (HD.out B9 (List.mem_of_getElem? hget))
    have hstep : amt (R.take (j + 1)) = N * 10 + (B9 - 48) := by
     rw [List.take_add_one, hget]
     refine (Gl _ _).trans ?_
     rw [HN.out]
     exact if_pos hst
    obtain ⟨D, hD⟩ : ∃ D : Nat, B9 - 48 = D := ⟨_, rfl⟩
    obtain ⟨M, hM⟩ : ∃ M : Nat, N * 10 + D = M := ⟨_, rfl⟩
    have HS := Lh (show amt (R.take (j + 1)) = M from by rw [hstep, hD, hM])
    have l2 : (N : Int) < 1099511627776 := by omega
    have l3 : (0 : Int) ≤ (at' : Int) + 1 + 1 + (j : Int) := by omega
    have l4 : (at' : Int) + 1 + 1 + (j : Int) < (s.size : Int) := by omega
    have l5 : ((at' : Int) + 1 + 1 + (j : Int)).toNat = at' + 2 + j := by omega
    have l6 : ((s[at' + 2 + j]'hx).toNat : Int) = (B9 : Int) := by rw [hB9]
    have l7 : IntKind.u8.wrap ((B9 : Int) - 48) = (D : Int) := by rw [IntWalk.u8_in _ (by omega)]; omega
    have l8 : IntKind.i64.wrap (D : Int) = (D : Int) := IntWalk.i64_in _ (by omega)
    have l9 : (N : Int) * 10 + (D : Int) = (M : Int) := by omega
    have l10 : IntKind.i64.wrap ((N : Int) * 10) = (N : Int) * 10 := IntWalk.i64_in _ (by omega)
    have l11 : IntKind.i64.wrap ((N : Int) * 10 + (D : Int)) = (M : Int) := by rw [IntWalk.i64_in _ (by omega)]; omega
    clear hstep hD hM hdB hget hB9 hst l9 hNl
    go_wp2
    exact ⟨⟨j + 1, by go_num, by omega, by rw [HS.out], trivial⟩, by simp [intOf]; omega⟩
   ·have HZ := Lh (show amt R = N from by rw [Hd R j (by rw [HN.out]; omega), HN.out])
    have l2 : decide ((N : Int) < 1099511627776) = false := decide_eq_false (by omega)
    rw [HZ.out] at C2
    clear hst hNl
    go_wp2_with fail
    refine (C2.out _).mono ?_
    rintro e w' ⟨rfl, hb⟩
    go_wp2
    go_ret2
    exact ⟨rfl, hb⟩
  ·have HZ := Lh (show amt R = N from by rw [← HN.out, List.take_of_length_le (by rw [HR.out]; omega)])
   have l2 : ¬ (j : Int) < (n : Int) := by omega
   rw [HZ.out] at C2
   clear hlt hNl
   go_wp2_with fail
   refine (C2.out _).mono ?_
   rintro e w' ⟨rfl, hb⟩
   go_wp2
   go_ret2
   exact ⟨rfl, hb⟩
theorem M6 (s G : ByteArray) (at' F : Nat) (E : Int) (w : World) (hs : s.size ≤ 140737488355328)  (h : at' < s.size) (hc : (s[at']'h).toNat = 69) (g : at' + 1 = s.size)
  (C1 : Hid (∀ W, Cq 110 #[.string s, .int .i64 ((at' : Int) + 1)] (.int .i64 0) W))
  (C2 : Hid (∀ W, Ct 141 #[.string G, .int .i64 E] (.float .f64 F) W)) :
  Ct 111 #[.string s, .int .i64 (at' : Nat), .string G, .int .i64 E] (.tuple #[.int .i64 (at' : Nat), .float .f64 F]) w := by
 have h1 : (s.size : Int) ≤ 140737488355328 := by omega
 have a1 : (0 : Int) ≤ (at' : Int) := by omega
 have a2 : (at' : Int) < (s.size : Int) := by omega
 have e0 : ((s[at']'h).toNat : Int) = 69 := by rw [hc]; rfl
 have t0 : decide ((at' : Int) + 1 < (s.size : Int)) = false := decide_eq_false (by omega)
 clear hs hc g
 go_enter Tryz.func111, Tryz.ntmps111
 go_wp2_with fail
 refine Sm (C1.out _) ?_
 go_wp2_with fail
 refine (C2.out _).mono ?_
 rintro e w' ⟨rfl, hb⟩
 go_wp2
 go_ret2
 exact ⟨rfl, hb⟩
theorem Li (s G : ByteArray) (at' F : Nat) (E : Int) (w : World) (hs : s.size ≤ 140737488355328)  (B : Nat) (h : at' < s.size) (hc : (s[at']'h).toNat = 69) (g : at' + 1 < s.size) (hB : (s[at' + 1]'g).toNat = B) (n1 : B ≠ 45) (n2 : B ≠ 43)
  (C1 : Hid (∀ W, Cq 110 #[.string s, .int .i64 ((at' : Int) + 1)] (.int .i64 0) W))
  (C2 : Hid (∀ W, Ct 141 #[.string G, .int .i64 E] (.float .f64 F) W)) :
  Ct 111 #[.string s, .int .i64 (at' : Nat), .string G, .int .i64 E] (.tuple #[.int .i64 (at' : Nat), .float .f64 F]) w := by
 have h1 : (s.size : Int) ≤ 140737488355328 := by omega
 have a1 : (0 : Int) ≤ (at' : Int) := by omega
 have a2 : (at' : Int) < (s.size : Int) := by omega
 have e0 : ((s[at']'h).toNat : Int) = 69 := by rw [hc]; rfl
 have b1 : (0 : Int) ≤ (at' : Int) + 1 := by omega
 have b2 : (at' : Int) + 1 < (s.size : Int) := by omega
 have b3 : ((at' : Int) + 1).toNat = at' + 1 := by omega
 have e1 : ((s[at' + 1]'g).toNat : Int) = (B : Int) := by rw [hB]
 have e2 : ((B : Int) == 45) = false := by rw [beq_eq_false_iff_ne]; omega
 have e3 : ((B : Int) == 43) = false := by rw [beq_eq_false_iff_ne]; omega
 clear hs hc hB n1 n2
 go_enter Tryz.func111, Tryz.ntmps111
 go_wp2_with fail
 refine Sm (C1.out _) ?_
 go_wp2_with fail
 refine (C2.out _).mono ?_
 rintro e w' ⟨rfl, hb⟩
 go_wp2
 go_ret2
 exact ⟨rfl, hb⟩
theorem Le (s G : ByteArray) (at' F : Nat) (E : Int) (w : World) (hs : s.size ≤ 140737488355328) (hE1 : -281474976710656 ≤ E) (hE2 : E ≤ 281474976710656) (B : Nat) (n : Nat) (R : List Nat) (h : at' < s.size) (hc : (s[at']'h).toNat = 69) (g : at' + 1 < s.size) (hB : (s[at' + 1]'g).toNat = B) (n1 : B ≠ 45) (n2 : B ≠ 43) (hn0 : 0 < n) (hR : R.length = n) (hd : ∀ c ∈ R, Bw c = true) (hRs : ∀ j, j < n → ∃ hj : at' + 1 + j < s.size, R[j]? = some (s[at' + 1 + j]'hj).toNat)
  (C1 : Hid (∀ W, Cq 110 #[.string s, .int .i64 ((at' : Int) + 1)] (.int .i64 (n : Nat)) W))
  (C2 : Hid (∀ W, Ct 141 #[.string G, .int .i64 (E + (amt R : Nat))] (.float .f64 F) W)) :
  Ct 111 #[.string s, .int .i64 (at' : Nat), .string G, .int .i64 E] (.tuple #[.int .i64 ((at' : Int) + 1 + (n : Int)), .float .f64 F]) w := by
 have h1 : (s.size : Int) ≤ 140737488355328 := by omega
 have a1 : (0 : Int) ≤ (at' : Int) := by omega
 have a2 : (at' : Int) < (s.size : Int) := by omega
 have e0 : ((s[at']'h).toNat : Int) = 69 := by rw [hc]; rfl
 have b1 : (0 : Int) ≤ (at' : Int) + 1 := by omega
 have b2 : (at' : Int) + 1 < (s.size : Int) := by omega
 have b3 : ((at' : Int) + 1).toNat = at' + 1 := by omega
 have e1 : ((s[at' + 1]'g).toNat : Int) = (B : Int) := by rw [hB]
 have e2 : ((B : Int) == 45) = false := by rw [beq_eq_false_iff_ne]; omega
 have e3 : ((B : Int) == 43) = false := by rw [beq_eq_false_iff_ne]; omega
 have hnl : n ≤ s.size := by
  obtain ⟨x, _⟩ := hRs (n - 1) (by omega)
  omega
 have n3 : (n : Int) ≤ (s.size : Int) := by omega
 have n4 : (0 : Int) < (n : Int) := by omega
 have HD := Lh hd
 have HR := Lh hR
 have HRS := Lh hRs
 clear hd hR hRs hn0 hnl
 clear hs hc hB n1 n2
 go_enter Tryz.func111, Tryz.ntmps111
 go_wp2_with fail
 refine Sm (C1.out _) ?_
 go_wp2
 clear e0 e1 e2 e3 n4
 go_loopw [13, 14] (fun x i wr => ∃ j : Nat, i = .int .i64 j ∧ j ≤ n ∧ x = .int .i64 (amt (R.take j) : Nat) ∧ w = wr) (fun _ i _ => n - (intOf i).toNat)
 case atStart => exact ⟨0, rfl, Nat.zero_le _, rfl, rfl⟩
 case round =>
  obtain ⟨j, rfl, hj, rfl, rfl⟩ := hrel
  obtain ⟨N, hN⟩ : ∃ N, amt (R.take j) = N := ⟨_, rfl⟩
  have hNl : N < 10995116277760 := by rw [← hN]; exact Hs _ (fun c hc => HD.out c (List.mem_of_mem_take hc))
  have hNl2 : (N : Int) < 10995116277760 := by omega
  have HN := Lh hN
  rw [hN]
  clear hN
  by_cases hlt : j < n
  ·have l1 : (j : Int) < (n : Int) := by omega
   by_cases hst : N < 1099511627776
   ·obtain ⟨hx, hget⟩ := HRS.out j hlt
    obtain ⟨B9, hB9⟩ : ∃ B9 : Nat, (s[at' + 1 + j]'hx).toNat = B9 := ⟨_, rfl⟩
    rw [hB9] at hget
    have hdB := Bu.1 (HD.out B9 (List.mem_of_getElem? hget))
    have hstep : amt (R.take (j + 1)) = N * 10 + (B9 - 48) := by
     rw [List.take_add_one, hget]
     refine (Gl _ _).trans ?_
     rw [HN.out]
     exact if_pos hst
    obtain ⟨D, hD⟩ : ∃ D : Nat, B9 - 48 = D := ⟨_, rfl⟩
    obtain ⟨M, hM⟩ : ∃ M : Nat, N * 10 + D = M := ⟨_, rfl⟩
    have HS := Lh (show amt (R.take (j + 1)) = M from by rw [hstep, hD, hM])
    have l2 : (N : Int) < 1099511627776 := by omega
    have l3 : (0 : Int) ≤ (at' : Int) + 1 + (j : Int) := by omega
    have l4 : (at' : Int) + 1 + (j : Int) < (s.size : Int) := by omega
    have l5 : ((at' : Int) + 1 + (j : Int)).toNat = at' + 1 + j := by omega
    have l6 : ((s[at' + 1 + j]'hx).toNat : Int) = (B9 : Int) := by rw [hB9]
    have l7 : IntKind.u8.wrap ((B9 : Int) - 48) = (D : Int) := by rw [IntWalk.u8_in _ (by omega)]; omega
    have l8 : IntKind.i64.wrap (D : Int) = (D : Int) := IntWalk.i64_in _ (by omega)
    have l9 : (N : Int) * 10 + (D : Int) = (M : Int) := by omega
    have l10 : IntKind.i64.wrap ((N : Int) * 10) = (N : Int) * 10 := IntWalk.i64_in _ (by omega)
    have l11 : IntKind.i64.wrap ((N : Int) * 10 + (D : Int)) = (M : Int) := by rw [IntWalk.i64_in _ (by omega)]; omega
    clear hstep hD hM hdB hget hB9 hst l9 hNl
    go_wp2
    exact ⟨⟨j + 1, by go_num, by omega, by rw [HS.out], trivial⟩, by simp [intOf]; omega⟩
   ·have HZ := Lh (show amt R = N from by rw [Hd R j (by rw [HN.out]; omega), HN.out])
    have l2 : decide ((N : Int) < 1099511627776) = false := decide_eq_false (by omega)
    rw [HZ.out] at C2
    clear hst hNl
    go_wp2_with fail
    refine (C2.out _).mono ?_
    rintro e w' ⟨rfl, hb⟩
    go_wp2
    go_ret2
    exact ⟨rfl, hb⟩
  ·have HZ := Lh (show amt R = N from by rw [← HN.out, List.take_of_length_le (by rw [HR.out]; omega)])
   have l2 : ¬ (j : Int) < (n : Int) := by omega
   rw [HZ.out] at C2
   clear hlt hNl
   go_wp2_with fail
   refine (C2.out _).mono ?_
   rintro e w' ⟨rfl, hb⟩
   go_wp2
   go_ret2
   exact ⟨rfl, hb⟩
theorem Kz (s G : ByteArray) (at' F : Nat) (E : Int) (w : World) (hs : s.size ≤ 140737488355328)  (h : at' < s.size) (hc : (s[at']'h).toNat = 69) (g : at' + 1 < s.size) (hB : (s[at' + 1]'g).toNat = 45)
  (C1 : Hid (∀ W, Cq 110 #[.string s, .int .i64 ((at' : Int) + 1 + 1)] (.int .i64 0) W))
  (C2 : Hid (∀ W, Ct 141 #[.string G, .int .i64 E] (.float .f64 F) W)) :
  Ct 111 #[.string s, .int .i64 (at' : Nat), .string G, .int .i64 E] (.tuple #[.int .i64 (at' : Nat), .float .f64 F]) w := by
 have h1 : (s.size : Int) ≤ 140737488355328 := by omega
 have a1 : (0 : Int) ≤ (at' : Int) := by omega
 have a2 : (at' : Int) < (s.size : Int) := by omega
 have e0 : ((s[at']'h).toNat : Int) = 69 := by rw [hc]; rfl
 have b1 : (0 : Int) ≤ (at' : Int) + 1 := by omega
 have b2 : (at' : Int) + 1 < (s.size : Int) := by omega
 have b3 : ((at' : Int) + 1).toNat = at' + 1 := by omega
 have e1 : ((s[at' + 1]'g).toNat : Int) = 45 := by rw [hB]; rfl
 clear hs hc hB
 go_enter Tryz.func111, Tryz.ntmps111
 go_wp2_with fail
 refine Sm (C1.out _) ?_
 go_wp2_with fail
 refine (C2.out _).mono ?_
 rintro e w' ⟨rfl, hb⟩
 go_wp2
 go_ret2
 exact ⟨rfl, hb⟩
theorem K7 (s G : ByteArray) (at' F : Nat) (E : Int) (w : World) (hs : s.size ≤ 140737488355328) (hE1 : -281474976710656 ≤ E) (hE2 : E ≤ 281474976710656) (n : Nat) (R : List Nat) (h : at' < s.size) (hc : (s[at']'h).toNat = 69) (g : at' + 1 < s.size) (hB : (s[at' + 1]'g).toNat = 45) (hn0 : 0 < n) (hR : R.length = n) (hd : ∀ c ∈ R, Bw c = true) (hRs : ∀ j, j < n → ∃ hj : at' + 2 + j < s.size, R[j]? = some (s[at' + 2 + j]'hj).toNat)
  (C1 : Hid (∀ W, Cq 110 #[.string s, .int .i64 ((at' : Int) + 1 + 1)] (.int .i64 (n : Nat)) W))
  (C2 : Hid (∀ W, Ct 141 #[.string G, .int .i64 (E + -(amt R : Nat))] (.float .f64 F) W)) :
  Ct 111 #[.string s, .int .i64 (at' : Nat), .string G, .int .i64 E] (.tuple #[.int .i64 ((at' : Int) + 1 + 1 + (n : Int)), .float .f64 F]) w := by
 have h1 : (s.size : Int) ≤ 140737488355328 := by omega
 have a1 : (0 : Int) ≤ (at' : Int) := by omega
 have a2 : (at' : Int) < (s.size : Int) := by omega
 have e0 : ((s[at']'h).toNat : Int) = 69 := by rw [hc]; rfl
 have b1 : (0 : Int) ≤ (at' : Int) + 1 := by omega
 have b2 : (at' : Int) + 1 < (s.size : Int) := by omega
 have b3 : ((at' : Int) + 1).toNat = at' + 1 := by omega
 have e1 : ((s[at' + 1]'g).toNat : Int) = 45 := by rw [hB]; rfl
 have hnl : n ≤ s.size := by
  obtain ⟨x, _⟩ := hRs (n - 1) (by omega)
  omega
 have n3 : (n : Int) ≤ (s.size : Int) := by omega
 have n4 : (0 : Int) < (n : Int) := by omega
 have HD := Lh hd
 have HR := Lh hR
 have HRS := Lh hRs
 clear hd hR hRs hn0 hnl
 clear hs hc hB
 go_enter Tryz.func111, Tryz.ntmps111
 go_wp2_with fail
 refine Sm (C1.out _) ?_
 go_wp2
 clear e0 e1 n4
 go_loopw [13, 14] (fun x i wr => ∃ j : Nat, i = .int .i64 j ∧ j ≤ n ∧ x = .int .i64 (amt (R.take j) : Nat) ∧ w = wr) (fun _ i _ => n - (intOf i).toNat)
 case atStart => exact ⟨0, rfl, Nat.zero_le _, rfl, rfl⟩
 case round =>
  obtain ⟨j, rfl, hj, rfl, rfl⟩ := hrel
  obtain ⟨N, hN⟩ : ∃ N, amt (R.take j) = N := ⟨_, rfl⟩
  have hNl : N < 10995116277760 := by rw [← hN]; exact Hs _ (fun c hc => HD.out c (List.mem_of_mem_take hc))
  have hNl2 : (N : Int) < 10995116277760 := by omega
  have HN := Lh hN
  rw [hN]
  clear hN
  by_cases hlt : j < n
  ·have l1 : (j : Int) < (n : Int) := by omega
   by_cases hst : N < 1099511627776
   ·obtain ⟨hx, hget⟩ := HRS.out j hlt
    obtain ⟨B9, hB9⟩ : ∃ B9 : Nat, (s[at' + 2 + j]'hx).toNat = B9 := ⟨_, rfl⟩
    rw [hB9] at hget
    have hdB := Bu.1 (HD.out B9 (List.mem_of_getElem? hget))
    have hstep : amt (R.take (j + 1)) = N * 10 + (B9 - 48) := by
     rw [List.take_add_one, hget]
     refine (Gl _ _).trans ?_
     rw [HN.out]
     exact if_pos hst
    obtain ⟨D, hD⟩ : ∃ D : Nat, B9 - 48 = D := ⟨_, rfl⟩
    obtain ⟨M, hM⟩ : ∃ M : Nat, N * 10 + D = M := ⟨_, rfl⟩
    have HS := Lh (show amt (R.take (j + 1)) = M from by rw [hstep, hD, hM])
    have l2 : (N : Int) < 1099511627776 := by omega
    have l3 : (0 : Int) ≤ (at' : Int) + 1 + 1 + (j : Int) := by omega
    have l4 : (at' : Int) + 1 + 1 + (j : Int) < (s.size : Int) := by omega
    have l5 : ((at' : Int) + 1 + 1 + (j : Int)).toNat = at' + 2 + j := by omega
    have l6 : ((s[at' + 2 + j]'hx).toNat : Int) = (B9 : Int) := by rw [hB9]
    have l7 : IntKind.u8.wrap ((B9 : Int) - 48) = (D : Int) := by rw [IntWalk.u8_in _ (by omega)]; omega
    have l8 : IntKind.i64.wrap (D : Int) = (D : Int) := IntWalk.i64_in _ (by omega)
    have l9 : (N : Int) * 10 + (D : Int) = (M : Int) := by omega
    have l10 : IntKind.i64.wrap ((N : Int) * 10) = (N : Int) * 10 := IntWalk.i64_in _ (by omega)
    have l11 : IntKind.i64.wrap ((N : Int) * 10 + (D : Int)) = (M : Int) := by rw [IntWalk.i64_in _ (by omega)]; omega
    clear hstep hD hM hdB hget hB9 hst l9 hNl
    go_wp2
    exact ⟨⟨j + 1, by go_num, by omega, by rw [HS.out], trivial⟩, by simp [intOf]; omega⟩
   ·have HZ := Lh (show amt R = N from by rw [Hd R j (by rw [HN.out]; omega), HN.out])
    have l2 : decide ((N : Int) < 1099511627776) = false := decide_eq_false (by omega)
    rw [HZ.out] at C2
    clear hst hNl
    go_wp2_with fail
    refine (C2.out _).mono ?_
    rintro e w' ⟨rfl, hb⟩
    go_wp2
    go_ret2
    exact ⟨rfl, hb⟩
  ·have HZ := Lh (show amt R = N from by rw [← HN.out, List.take_of_length_le (by rw [HR.out]; omega)])
   have l2 : ¬ (j : Int) < (n : Int) := by omega
   rw [HZ.out] at C2
   clear hlt hNl
   go_wp2_with fail
   refine (C2.out _).mono ?_
   rintro e w' ⟨rfl, hb⟩
   go_wp2
   go_ret2
   exact ⟨rfl, hb⟩
theorem M3 (s G : ByteArray) (at' F : Nat) (E : Int) (w : World) (hs : s.size ≤ 140737488355328)  (h : at' < s.size) (hc : (s[at']'h).toNat = 69) (g : at' + 1 < s.size) (hB : (s[at' + 1]'g).toNat = 43)
  (C1 : Hid (∀ W, Cq 110 #[.string s, .int .i64 ((at' : Int) + 1 + 1)] (.int .i64 0) W))
  (C2 : Hid (∀ W, Ct 141 #[.string G, .int .i64 E] (.float .f64 F) W)) :
  Ct 111 #[.string s, .int .i64 (at' : Nat), .string G, .int .i64 E] (.tuple #[.int .i64 (at' : Nat), .float .f64 F]) w := by
 have h1 : (s.size : Int) ≤ 140737488355328 := by omega
 have a1 : (0 : Int) ≤ (at' : Int) := by omega
 have a2 : (at' : Int) < (s.size : Int) := by omega
 have e0 : ((s[at']'h).toNat : Int) = 69 := by rw [hc]; rfl
 have b1 : (0 : Int) ≤ (at' : Int) + 1 := by omega
 have b2 : (at' : Int) + 1 < (s.size : Int) := by omega
 have b3 : ((at' : Int) + 1).toNat = at' + 1 := by omega
 have e1 : ((s[at' + 1]'g).toNat : Int) = 43 := by rw [hB]; rfl
 clear hs hc hB
 go_enter Tryz.func111, Tryz.ntmps111
 go_wp2_with fail
 refine Sm (C1.out _) ?_
 go_wp2_with fail
 refine (C2.out _).mono ?_
 rintro e w' ⟨rfl, hb⟩
 go_wp2
 go_ret2
 exact ⟨rfl, hb⟩
theorem Mo (s G : ByteArray) (at' F : Nat) (E : Int) (w : World) (hs : s.size ≤ 140737488355328) (hE1 : -281474976710656 ≤ E) (hE2 : E ≤ 281474976710656) (n : Nat) (R : List Nat) (h : at' < s.size) (hc : (s[at']'h).toNat = 69) (g : at' + 1 < s.size) (hB : (s[at' + 1]'g).toNat = 43) (hn0 : 0 < n) (hR : R.length = n) (hd : ∀ c ∈ R, Bw c = true) (hRs : ∀ j, j < n → ∃ hj : at' + 2 + j < s.size, R[j]? = some (s[at' + 2 + j]'hj).toNat)
  (C1 : Hid (∀ W, Cq 110 #[.string s, .int .i64 ((at' : Int) + 1 + 1)] (.int .i64 (n : Nat)) W))
  (C2 : Hid (∀ W, Ct 141 #[.string G, .int .i64 (E + (amt R : Nat))] (.float .f64 F) W)) :
  Ct 111 #[.string s, .int .i64 (at' : Nat), .string G, .int .i64 E] (.tuple #[.int .i64 ((at' : Int) + 1 + 1 + (n : Int)), .float .f64 F]) w := by
 have h1 : (s.size : Int) ≤ 140737488355328 := by omega
 have a1 : (0 : Int) ≤ (at' : Int) := by omega
 have a2 : (at' : Int) < (s.size : Int) := by omega
 have e0 : ((s[at']'h).toNat : Int) = 69 := by rw [hc]; rfl
 have b1 : (0 : Int) ≤ (at' : Int) + 1 := by omega
 have b2 : (at' : Int) + 1 < (s.size : Int) := by omega
 have b3 : ((at' : Int) + 1).toNat = at' + 1 := by omega
 have e1 : ((s[at' + 1]'g).toNat : Int) = 43 := by rw [hB]; rfl
 have hnl : n ≤ s.size := by
  obtain ⟨x, _⟩ := hRs (n - 1) (by omega)
  omega
 have n3 : (n : Int) ≤ (s.size : Int) := by omega
 have n4 : (0 : Int) < (n : Int) := by omega
 have HD := Lh hd
 have HR := Lh hR
 have HRS := Lh hRs
 clear hd hR hRs hn0 hnl
 clear hs hc hB
 go_enter Tryz.func111, Tryz.ntmps111
 go_wp2_with fail
 refine Sm (C1.out _) ?_
 go_wp2
 clear e0 e1 n4
 go_loopw [13, 14] (fun x i wr => ∃ j : Nat, i = .int .i64 j ∧ j ≤ n ∧ x = .int .i64 (amt (R.take j) : Nat) ∧ w = wr) (fun _ i _ => n - (intOf i).toNat)
 case atStart => exact ⟨0, rfl, Nat.zero_le _, rfl, rfl⟩
 case round =>
  obtain ⟨j, rfl, hj, rfl, rfl⟩ := hrel
  obtain ⟨N, hN⟩ : ∃ N, amt (R.take j) = N := ⟨_, rfl⟩
  have hNl : N < 10995116277760 := by rw [← hN]; exact Hs _ (fun c hc => HD.out c (List.mem_of_mem_take hc))
  have hNl2 : (N : Int) < 10995116277760 := by omega
  have HN := Lh hN
  rw [hN]
  clear hN
  by_cases hlt : j < n
  ·have l1 : (j : Int) < (n : Int) := by omega
   by_cases hst : N < 1099511627776
   ·obtain ⟨hx, hget⟩ := HRS.out j hlt
    obtain ⟨B9, hB9⟩ : ∃ B9 : Nat, (s[at' + 2 + j]'hx).toNat = B9 := ⟨_, rfl⟩
    rw [hB9] at hget
    have hdB := Bu.1 (HD.out B9 (List.mem_of_getElem? hget))
    have hstep : amt (R.take (j + 1)) = N * 10 + (B9 - 48) := by
     rw [List.take_add_one, hget]
     refine (Gl _ _).trans ?_
     rw [HN.out]
     exact if_pos hst
    obtain ⟨D, hD⟩ : ∃ D : Nat, B9 - 48 = D := ⟨_, rfl⟩
    obtain ⟨M, hM⟩ : ∃ M : Nat, N * 10 + D = M := ⟨_, rfl⟩
    have HS := Lh (show amt (R.take (j + 1)) = M from by rw [hstep, hD, hM])
    have l2 : (N : Int) < 1099511627776 := by omega
    have l3 : (0 : Int) ≤ (at' : Int) + 1 + 1 + (j : Int) := by omega
    have l4 : (at' : Int) + 1 + 1 + (j : Int) < (s.size : Int) := by omega
    have l5 : ((at' : Int) + 1 + 1 + (j : Int)).toNat = at' + 2 + j := by omega
    have l6 : ((s[at' + 2 + j]'hx).toNat : Int) = (B9 : Int) := by rw [hB9]
    have l7 : IntKind.u8.wrap ((B9 : Int) - 48) = (D : Int) := by rw [IntWalk.u8_in _ (by omega)]; omega
    have l8 : IntKind.i64.wrap (D : Int) = (D : Int) := IntWalk.i64_in _ (by omega)
    have l9 : (N : Int) * 10 + (D : Int) = (M : Int) := by omega
    have l10 : IntKind.i64.wrap ((N : Int) * 10) = (N : Int) * 10 := IntWalk.i64_in _ (by omega)
    have l11 : IntKind.i64.wrap ((N : Int) * 10 + (D : Int)) = (M : Int) := by rw [IntWalk.i64_in _ (by omega)]; omega
    clear hstep hD hM hdB hget hB9 hst l9 hNl
    go_wp2
    exact ⟨⟨j + 1, by go_num, by omega, by rw [HS.out], trivial⟩, by simp [intOf]; omega⟩
   ·have HZ := Lh (show amt R = N from by rw [Hd R j (by rw [HN.out]; omega), HN.out])
    have l2 : decide ((N : Int) < 1099511627776) = false := decide_eq_false (by omega)
    rw [HZ.out] at C2
    clear hst hNl
    go_wp2_with fail
    refine (C2.out _).mono ?_
    rintro e w' ⟨rfl, hb⟩
    go_wp2
    go_ret2
    exact ⟨rfl, hb⟩
  ·have HZ := Lh (show amt R = N from by rw [← HN.out, List.take_of_length_le (by rw [HR.out]; omega)])
   have l2 : ¬ (j : Int) < (n : Int) := by omega
   rw [HZ.out] at C2
   clear hlt hNl
   go_wp2_with fail
   refine (C2.out _).mono ?_
   rintro e w' ⟨rfl, hb⟩
   go_wp2
   go_ret2
   exact ⟨rfl, hb⟩
end
section
theorem Iq (s : ByteArray) (K j : Nat) (h : j < (Ag ((bl s).drop K)).length) : ∃ hj : K + j < s.size, (Ag ((bl s).drop K))[j]? = some (s[K + j]'hj).toNat := by
 have h1 := Cs ((bl s).drop K)
 rw [List.length_drop, Bx] at h1
 have hj : K + j < s.size := by omega
 refine ⟨hj, ?_⟩
 have h2 := congrArg (fun l : List Nat => l[j]?) (Nd ((bl s).drop K))
 simp only [List.getElem?_append_left h, List.getElem?_drop] at h2
 rw [h2, De s (K + j) hj]
theorem Fj {c : Nat} {r : List Nat} (h : Ag (Bl r) = []) : exR (c :: r) = c :: r ∧ exV (c :: r) = 0 := by
 have : F4 (c :: r) = false := by
  unfold F4
  rw [List.tail_cons, h]
  simp
 unfold exR exV
 rw [this]
 exact ⟨rfl, rfl⟩
theorem Iy {c : Nat} {r : List Nat} (hc : c = 101 ∨ c = 69) (h : Ag (Bl r) ≠ []) : exR (c :: r) = Al (Bl r) ∧ exV (c :: r) = if Eu r = true then -(amt (Ag (Bl r)) : Int) else (amt (Ag (Bl r)) : Int) := by
 have : F4 (c :: r) = true := by
  unfold F4
  rw [List.tail_cons]
  cases hr : Ag (Bl r) with
  | nil => exact absurd hr h
  | cons a b => rcases hc with rfl | rfl <;> simp
 unfold exR exV
 rw [this]
 exact ⟨rfl, rfl⟩
theorem Afv {c : Nat} {r : List Nat} (h1 : c ≠ 101) (h2 : c ≠ 69) : exR (c :: r) = c :: r ∧ exV (c :: r) = 0 := by
 have : F4 (c :: r) = false := by
  unfold F4
  simp [h1, h2]
 unfold exR exV
 rw [this]
 exact ⟨rfl, rfl⟩
theorem Ga {l : List Nat} {k c : Nat} {r : List Nat} (h : l.drop k = c :: r) : l.drop (k + 1) = r ∧ l[k]? = some c ∧ k < l.length := by
 have hk : k < l.length := by
  rcases Nat.lt_or_ge k l.length with h1 | h1
  ·exact h1
  ·rw [List.drop_of_length_le h1] at h
   cases h
 rw [Sj l k hk] at h
 injection h with h1 h2
 exact ⟨h2, by rw [List.getElem?_eq_getElem hk, h1], hk⟩
theorem Hi {s : ByteArray} {k c : Nat} (h : (bl s)[k]? = some c) : ∃ hk : k < s.size, (s[k]'hk).toNat = c := by
 have hk : k < s.size := by
  rw [← Bx s]
  exact (List.getElem?_eq_some_iff.1 h).1
 refine ⟨hk, ?_⟩
 rw [De s k hk] at h
 exact Option.some.inj h
theorem Gh (s : ByteArray) (k : Nat) (w : World) (hs : s.size ≤ 140737488355328) (hk : k ≤ 140737488355320) : Cq 110 #[.string s, .int .i64 ((k : Int) + 1)] (.int .i64 ((Ag ((bl s).drop (k + 1))).length : Nat)) w := by
 have := Om s (k + 1) w hs (by omega)
 rw [show ((k + 1 : Nat) : Int) = (k : Int) + 1 by omega] at this
 exact this
theorem Fp (s : ByteArray) (k : Nat) (w : World) (hs : s.size ≤ 140737488355328) (hk : k ≤ 140737488355320) : Cq 110 #[.string s, .int .i64 ((k : Int) + 1 + 1)] (.int .i64 ((Ag ((bl s).drop (k + 2))).length : Nat)) w := by
 have := Om s (k + 2) w hs (by omega)
 rw [show ((k + 2 : Nat) : Int) = (k : Int) + 1 + 1 by omega] at this
 exact this
theorem Aaq (s : ByteArray) (at' : Nat) (f r : List Nat) (E : Int) (w : World) (hs : s.size ≤ 140737488355320) (hd : ∀ c ∈ f, Bw c = true) (hf : f.length ≤ 281474976710656) (hE1 : -281474976710656 ≤ E) (hE2 : E ≤ 281474976710656) (hT : (bl s).drop at' = 101 :: r) :
  Ct 111 #[.string s, .int .i64 (at' : Nat), .string (Ab f), .int .i64 E] (.tuple #[.int .i64 ((s.size - (exR (101 :: r)).length : Nat) : Nat), .float .f64 (Bg (num 10 f) (E + exV (101 :: r)))]) w := by
 have hbl := Bx s
 have hlen := congrArg List.length hT
 rw [List.length_drop, hbl, List.length_cons] at hlen
 obtain ⟨hr, hc, _⟩ := Ga hT
 obtain ⟨h, hB⟩ := Hi hc
 have hX := Zw (101 :: r)
 have C2 := fun W => Ev f (E + exV (101 :: r)) W hd hf (by omega)
 cases r with
 | nil =>
  have g : at' + 1 = s.size := by
   rw [List.length_nil] at hlen
   omega
  have hdr := hr
  have hun : Bl ([]) = [] := rfl
  by_cases h0 : Ag ([]) = []
  ·obtain ⟨x1, x2⟩ := Fj (c := 101) (r := []) (by rw [hun]; exact h0)
   rw [x2, Int.add_zero] at C2
   rw [x1, x2, Int.add_zero, show s.size - (101 :: []).length = at' by rw [List.length_cons]; omega]
   exact K8 (s := s) (G := Ab f) (at' := at') (E := E) (w := w) (hs := by omega) (h := h) (hc := hB) (g := g) (C1 := Lh (fun W => by
    have := Gh s at' W (by omega) (by omega)
    rw [hdr, h0] at this
    exact this)) (C2 := Lh C2)
  ·exact absurd rfl h0
 | cons d r2 =>
  rw [List.length_cons] at hlen
  obtain ⟨hr2, hc2, _⟩ := Ga hr
  obtain ⟨g, hB2⟩ := Hi hc2
  by_cases d1 : d = 45
  ·subst d1
   have hdr : (bl s).drop (at' + 2) = r2 := hr2
   have hsg : Eu (45 :: r2) = true := rfl
   have hlc : (45 :: r2).length = r2.length + 1 := rfl
   have hun : Bl (45 :: r2) = r2 := rfl
   by_cases h0 : Ag r2 = []
   ·obtain ⟨x1, x2⟩ := Fj (c := 101) (r := 45 :: r2) (by rw [hun]; exact h0)
    rw [x2, Int.add_zero] at C2
    rw [x1, x2, Int.add_zero, show s.size - (101 :: 45 :: r2).length = at' by rw [List.length_cons]; omega]
    exact Ki (s := s) (G := Ab f) (at' := at') (E := E) (w := w) (hs := by omega) (h := h) (hc := hB) (g := g) (hB := hB2) (C1 := Lh (fun W => by
     have := Fp s at' W (by omega) (by omega)
     rw [hdr, h0] at this
     exact this)) (C2 := Lh C2)
   ·obtain ⟨x1, x2⟩ := Iy (c := 101) (r := 45 :: r2) (by omega) (by rw [hun]; exact h0)
    rw [hsg] at x2
    rw [if_pos rfl] at x2
    rw [hun] at x1 x2
    rw [x2] at C2
    have hn := Cs r2
    have hn0 := List.length_pos_iff.2 h0
    rw [x1, x2, show ((s.size - (Al r2).length : Nat) : Int) = (at' : Int) + 1 + 1 + ((Ag r2).length : Nat) by omega]
    exact J9 (s := s) (G := Ab f) (at' := at') (E := E) (w := w) (n := (Ag r2).length) (R := Ag r2) (hs := by omega) (hE1 := hE1) (hE2 := hE2) (h := h) (hc := hB) (g := g) (hB := hB2) (hn0 := hn0) (hR := rfl) (hd := Ch _) (hRs := fun j hj => by
     have := Iq s (at' + 2) j (by rw [hdr]; exact hj)
     rw [hdr] at this
     exact this) (C1 := Lh (fun W => by
     have := Fp s at' W (by omega) (by omega)
     rw [hdr] at this
     exact this)) (C2 := Lh C2)
  ·by_cases d2 : d = 43
   ·subst d2
    have hdr : (bl s).drop (at' + 2) = r2 := hr2
    have hsg : Eu (43 :: r2) = false := rfl
    have hlc : (43 :: r2).length = r2.length + 1 := rfl
    have hun : Bl (43 :: r2) = r2 := rfl
    by_cases h0 : Ag r2 = []
    ·obtain ⟨x1, x2⟩ := Fj (c := 101) (r := 43 :: r2) (by rw [hun]; exact h0)
     rw [x2, Int.add_zero] at C2
     rw [x1, x2, Int.add_zero, show s.size - (101 :: 43 :: r2).length = at' by rw [List.length_cons]; omega]
     exact Lc (s := s) (G := Ab f) (at' := at') (E := E) (w := w) (hs := by omega) (h := h) (hc := hB) (g := g) (hB := hB2) (C1 := Lh (fun W => by
      have := Fp s at' W (by omega) (by omega)
      rw [hdr, h0] at this
      exact this)) (C2 := Lh C2)
    ·obtain ⟨x1, x2⟩ := Iy (c := 101) (r := 43 :: r2) (by omega) (by rw [hun]; exact h0)
     rw [hsg] at x2
     rw [if_neg (by simp)] at x2
     rw [hun] at x1 x2
     rw [x2] at C2
     have hn := Cs r2
     have hn0 := List.length_pos_iff.2 h0
     rw [x1, x2, show ((s.size - (Al r2).length : Nat) : Int) = (at' : Int) + 1 + 1 + ((Ag r2).length : Nat) by omega]
     exact La (s := s) (G := Ab f) (at' := at') (E := E) (w := w) (n := (Ag r2).length) (R := Ag r2) (hs := by omega) (hE1 := hE1) (hE2 := hE2) (h := h) (hc := hB) (g := g) (hB := hB2) (hn0 := hn0) (hR := rfl) (hd := Ch _) (hRs := fun j hj => by
      have := Iq s (at' + 2) j (by rw [hdr]; exact hj)
      rw [hdr] at this
      exact this) (C1 := Lh (fun W => by
      have := Fp s at' W (by omega) (by omega)
      rw [hdr] at this
      exact this)) (C2 := Lh C2)
   ·have hdr := hr
    have hsg : Eu (d :: r2) = false := by unfold Eu; rw [List.head?_cons, beq_eq_false_iff_ne]; exact fun e => d1 (Option.some.inj e)
    have hlc : (d :: r2).length = r2.length + 1 := rfl
    have hun : Bl (d :: r2) = d :: r2 := by unfold Bl; rw [if_neg (by simp [d1, d2])]
    by_cases h0 : Ag (d :: r2) = []
    ·obtain ⟨x1, x2⟩ := Fj (c := 101) (r := d :: r2) (by rw [hun]; exact h0)
     rw [x2, Int.add_zero] at C2
     rw [x1, x2, Int.add_zero, show s.size - (101 :: d :: r2).length = at' by rw [List.length_cons]; omega]
     exact J5 (s := s) (G := Ab f) (at' := at') (E := E) (w := w) (hs := by omega) (h := h) (hc := hB) (B := d) (g := g) (hB := hB2) (n1 := d1) (n2 := d2) (C1 := Lh (fun W => by
      have := Gh s at' W (by omega) (by omega)
      rw [hdr, h0] at this
      exact this)) (C2 := Lh C2)
    ·obtain ⟨x1, x2⟩ := Iy (c := 101) (r := d :: r2) (by omega) (by rw [hun]; exact h0)
     rw [hsg] at x2
     rw [if_neg (by simp)] at x2
     rw [hun] at x1 x2
     rw [x2] at C2
     have hn := Cs (d :: r2)
     have hn0 := List.length_pos_iff.2 h0
     rw [x1, x2, show ((s.size - (Al (d :: r2)).length : Nat) : Int) = (at' : Int) + 1 + ((Ag (d :: r2)).length : Nat) by omega]
     exact Kr (s := s) (G := Ab f) (at' := at') (E := E) (w := w) (n := (Ag (d :: r2)).length) (R := Ag (d :: r2)) (hs := by omega) (hE1 := hE1) (hE2 := hE2) (h := h) (hc := hB) (B := d) (g := g) (hB := hB2) (n1 := d1) (n2 := d2) (hn0 := hn0) (hR := rfl) (hd := Ch _) (hRs := fun j hj => by
      have := Iq s (at' + 1) j (by rw [hdr]; exact hj)
      rw [hdr] at this
      exact this) (C1 := Lh (fun W => by
      have := Gh s at' W (by omega) (by omega)
      rw [hdr] at this
      exact this)) (C2 := Lh C2)
theorem Afo (s : ByteArray) (at' : Nat) (f r : List Nat) (E : Int) (w : World) (hs : s.size ≤ 140737488355320) (hd : ∀ c ∈ f, Bw c = true) (hf : f.length ≤ 281474976710656) (hE1 : -281474976710656 ≤ E) (hE2 : E ≤ 281474976710656) (hT : (bl s).drop at' = 69 :: r) :
  Ct 111 #[.string s, .int .i64 (at' : Nat), .string (Ab f), .int .i64 E] (.tuple #[.int .i64 ((s.size - (exR (69 :: r)).length : Nat) : Nat), .float .f64 (Bg (num 10 f) (E + exV (69 :: r)))]) w := by
 have hbl := Bx s
 have hlen := congrArg List.length hT
 rw [List.length_drop, hbl, List.length_cons] at hlen
 obtain ⟨hr, hc, _⟩ := Ga hT
 obtain ⟨h, hB⟩ := Hi hc
 have hX := Zw (69 :: r)
 have C2 := fun W => Ev f (E + exV (69 :: r)) W hd hf (by omega)
 cases r with
 | nil =>
  have g : at' + 1 = s.size := by
   rw [List.length_nil] at hlen
   omega
  have hdr := hr
  have hun : Bl ([]) = [] := rfl
  by_cases h0 : Ag ([]) = []
  ·obtain ⟨x1, x2⟩ := Fj (c := 69) (r := []) (by rw [hun]; exact h0)
   rw [x2, Int.add_zero] at C2
   rw [x1, x2, Int.add_zero, show s.size - (69 :: []).length = at' by rw [List.length_cons]; omega]
   exact M6 (s := s) (G := Ab f) (at' := at') (E := E) (w := w) (hs := by omega) (h := h) (hc := hB) (g := g) (C1 := Lh (fun W => by
    have := Gh s at' W (by omega) (by omega)
    rw [hdr, h0] at this
    exact this)) (C2 := Lh C2)
  ·exact absurd rfl h0
 | cons d r2 =>
  rw [List.length_cons] at hlen
  obtain ⟨hr2, hc2, _⟩ := Ga hr
  obtain ⟨g, hB2⟩ := Hi hc2
  by_cases d1 : d = 45
  ·subst d1
   have hdr : (bl s).drop (at' + 2) = r2 := hr2
   have hsg : Eu (45 :: r2) = true := rfl
   have hlc : (45 :: r2).length = r2.length + 1 := rfl
   have hun : Bl (45 :: r2) = r2 := rfl
   by_cases h0 : Ag r2 = []
   ·obtain ⟨x1, x2⟩ := Fj (c := 69) (r := 45 :: r2) (by rw [hun]; exact h0)
    rw [x2, Int.add_zero] at C2
    rw [x1, x2, Int.add_zero, show s.size - (69 :: 45 :: r2).length = at' by rw [List.length_cons]; omega]
    exact Kz (s := s) (G := Ab f) (at' := at') (E := E) (w := w) (hs := by omega) (h := h) (hc := hB) (g := g) (hB := hB2) (C1 := Lh (fun W => by
     have := Fp s at' W (by omega) (by omega)
     rw [hdr, h0] at this
     exact this)) (C2 := Lh C2)
   ·obtain ⟨x1, x2⟩ := Iy (c := 69) (r := 45 :: r2) (by omega) (by rw [hun]; exact h0)
    rw [hsg] at x2
    rw [if_pos rfl] at x2
    rw [hun] at x1 x2
    rw [x2] at C2
    have hn := Cs r2
    have hn0 := List.length_pos_iff.2 h0
    rw [x1, x2, show ((s.size - (Al r2).length : Nat) : Int) = (at' : Int) + 1 + 1 + ((Ag r2).length : Nat) by omega]
    exact K7 (s := s) (G := Ab f) (at' := at') (E := E) (w := w) (n := (Ag r2).length) (R := Ag r2) (hs := by omega) (hE1 := hE1) (hE2 := hE2) (h := h) (hc := hB) (g := g) (hB := hB2) (hn0 := hn0) (hR := rfl) (hd := Ch _) (hRs := fun j hj => by
     have := Iq s (at' + 2) j (by rw [hdr]; exact hj)
     rw [hdr] at this
     exact this) (C1 := Lh (fun W => by
     have := Fp s at' W (by omega) (by omega)
     rw [hdr] at this
     exact this)) (C2 := Lh C2)
  ·by_cases d2 : d = 43
   ·subst d2
    have hdr : (bl s).drop (at' + 2) = r2 := hr2
    have hsg : Eu (43 :: r2) = false := rfl
    have hlc : (43 :: r2).length = r2.length + 1 := rfl
    have hun : Bl (43 :: r2) = r2 := rfl
    by_cases h0 : Ag r2 = []
    ·obtain ⟨x1, x2⟩ := Fj (c := 69) (r := 43 :: r2) (by rw [hun]; exact h0)
     rw [x2, Int.add_zero] at C2
     rw [x1, x2, Int.add_zero, show s.size - (69 :: 43 :: r2).length = at' by rw [List.length_cons]; omega]
     exact M3 (s := s) (G := Ab f) (at' := at') (E := E) (w := w) (hs := by omega) (h := h) (hc := hB) (g := g) (hB := hB2) (C1 := Lh (fun W => by
      have := Fp s at' W (by omega) (by omega)
      rw [hdr, h0] at this
      exact this)) (C2 := Lh C2)
    ·obtain ⟨x1, x2⟩ := Iy (c := 69) (r := 43 :: r2) (by omega) (by rw [hun]; exact h0)
     rw [hsg] at x2
     rw [if_neg (by simp)] at x2
     rw [hun] at x1 x2
     rw [x2] at C2
     have hn := Cs r2
     have hn0 := List.length_pos_iff.2 h0
     rw [x1, x2, show ((s.size - (Al r2).length : Nat) : Int) = (at' : Int) + 1 + 1 + ((Ag r2).length : Nat) by omega]
     exact Mo (s := s) (G := Ab f) (at' := at') (E := E) (w := w) (n := (Ag r2).length) (R := Ag r2) (hs := by omega) (hE1 := hE1) (hE2 := hE2) (h := h) (hc := hB) (g := g) (hB := hB2) (hn0 := hn0) (hR := rfl) (hd := Ch _) (hRs := fun j hj => by
      have := Iq s (at' + 2) j (by rw [hdr]; exact hj)
      rw [hdr] at this
      exact this) (C1 := Lh (fun W => by
      have := Fp s at' W (by omega) (by omega)
      rw [hdr] at this
      exact this)) (C2 := Lh C2)
   ·have hdr := hr
    have hsg : Eu (d :: r2) = false := by unfold Eu; rw [List.head?_cons, beq_eq_false_iff_ne]; exact fun e => d1 (Option.some.inj e)
    have hlc : (d :: r2).length = r2.length + 1 := rfl
    have hun : Bl (d :: r2) = d :: r2 := by unfold Bl; rw [if_neg (by simp [d1, d2])]
    by_cases h0 : Ag (d :: r2) = []
    ·obtain ⟨x1, x2⟩ := Fj (c := 69) (r := d :: r2) (by rw [hun]; exact h0)
     rw [x2, Int.add_zero] at C2
     rw [x1, x2, Int.add_zero, show s.size - (69 :: d :: r2).length = at' by rw [List.length_cons]; omega]
     exact Li (s := s) (G := Ab f) (at' := at') (E := E) (w := w) (hs := by omega) (h := h) (hc := hB) (B := d) (g := g) (hB := hB2) (n1 := d1) (n2 := d2) (C1 := Lh (fun W => by
      have := Gh s at' W (by omega) (by omega)
      rw [hdr, h0] at this
      exact this)) (C2 := Lh C2)
    ·obtain ⟨x1, x2⟩ := Iy (c := 69) (r := d :: r2) (by omega) (by rw [hun]; exact h0)
     rw [hsg] at x2
     rw [if_neg (by simp)] at x2
     rw [hun] at x1 x2
     rw [x2] at C2
     have hn := Cs (d :: r2)
     have hn0 := List.length_pos_iff.2 h0
     rw [x1, x2, show ((s.size - (Al (d :: r2)).length : Nat) : Int) = (at' : Int) + 1 + ((Ag (d :: r2)).length : Nat) by omega]
     exact Le (s := s) (G := Ab f) (at' := at') (E := E) (w := w) (n := (Ag (d :: r2)).length) (R := Ag (d :: r2)) (hs := by omega) (hE1 := hE1) (hE2 := hE2) (h := h) (hc := hB) (B := d) (g := g) (hB := hB2) (n1 := d1) (n2 := d2) (hn0 := hn0) (hR := rfl) (hd := Ch _) (hRs := fun j hj => by
      have := Iq s (at' + 1) j (by rw [hdr]; exact hj)
      rw [hdr] at this
      exact this) (C1 := Lh (fun W => by
      have := Gh s at' W (by omega) (by omega)
      rw [hdr] at this
      exact this)) (C2 := Lh C2)
theorem Aek (s : ByteArray) (at' : Nat) (f : List Nat) (E : Int) (w : World) (hs : s.size ≤ 140737488355320) (ha : at' ≤ s.size) (hd : ∀ c ∈ f, Bw c = true) (hf : f.length ≤ 281474976710656) (hE1 : -281474976710656 ≤ E) (hE2 : E ≤ 281474976710656) :
  Ct 111 #[.string s, .int .i64 (at' : Nat), .string (Ab f), .int .i64 E] (.tuple #[.int .i64 ((s.size - (exR ((bl s).drop at')).length : Nat) : Nat), .float .f64 (Bg (num 10 f) (E + exV ((bl s).drop at')))]) w := by
 have hbl := Bx s
 obtain ⟨T, hT⟩ : ∃ T, (bl s).drop at' = T := ⟨_, rfl⟩
 have hlen := congrArg List.length hT
 rw [List.length_drop, hbl] at hlen
 rw [hT]
 cases T with
 | nil =>
  rw [List.length_nil] at hlen
  have e1 : exV [] = 0 := rfl
  have e2 : exR [] = [] := rfl
  rw [e1, e2, List.length_nil, Int.add_zero, show s.size - 0 = at' by omega]
  exact Af8 (s := s) (G := Ab f) (at' := at') (E := E) (w := w) (hs := by omega) (ha := by omega) (C2 := Lh (fun W => Ev f E W hd hf (by omega)))
 | cons c r =>
  by_cases h1 : c = 101
  ·subst h1
   exact Aaq s at' f r E w hs hd hf hE1 hE2 hT
  ·by_cases h2 : c = 69
   ·subst h2
    exact Afo s at' f r E w hs hd hf hE1 hE2 hT
   ·obtain ⟨x1, x2⟩ := Afv (r := r) h1 h2
    obtain ⟨_, hc, _⟩ := Ga hT
    obtain ⟨h, hB⟩ := Hi hc
    rw [List.length_cons] at hlen
    rw [x1, x2, Int.add_zero, show s.size - (c :: r).length = at' by rw [List.length_cons]; omega]
    exact Zo (s := s) (G := Ab f) (at' := at') (E := E) (w := w) (B := c) (hs := by omega) (h := h) (hB := hB) (n1 := h1) (n2 := h2) (C2 := Lh (fun W => Ev f E W hd hf (by omega)))
end
section
theorem W9 (s : ByteArray) (a : Nat) (w : World) (_hs : s.size ≤ 140737488355328) (g : a = s.size) (ha0 : a = 0)
    (C1 : Hid (∀ W, Cq 110 #[.string s, .int .i64 0] (.int .i64 (a : Nat)) W))
 :
    Ct 78 #[.string s] (.tuple #[.int .i64 0, .float .f64 0]) w := by
  have a1 : (0 : Int) ≤ (a : Int) := by omega
  have a2 : ¬ (a : Int) < (s.size : Int) := by omega
  have a3 : (a : Int) ≤ (s.size : Int) := by omega
  have e2 : ((a : Int) == 0) = true := by rw [beq_iff_eq]; omega
  clear ha0 g
  go_enter Tryz.func78, Tryz.ntmps78
  go_wp2_with fail
  refine Sm (C1.out _) ?_
  go_wp2
  go_ret2
  exact ⟨rfl, Below.refl _ _⟩
theorem Yk (s : ByteArray) (a F : Nat) (p : Int) (w : World) (hs : s.size ≤ 140737488355328) (g : a = s.size) (ha0 : 0 < a)
  (C1 : Hid (∀ W, Cq 110 #[.string s, .int .i64 0] (.int .i64 (a : Nat)) W))
  (C4 : Hid (∀ W, Ct 111 #[.string s, .int .i64 ((a : Nat)), .string (s.extract 0 a), .int .i64 (0)] (.tuple #[.int .i64 p, .float .f64 F]) W)) :
  Ct 78 #[.string s] (.tuple #[.int .i64 p, .float .f64 F]) w := by
 have h1 : (s.size : Int) ≤ 140737488355328 := by omega
 have a1 : (0 : Int) ≤ (a : Int) := by omega
 have a2 : ¬ (a : Int) < (s.size : Int) := by omega
 have a3 : (a : Int) ≤ (s.size : Int) := by omega
 have e2 : ((a : Int) == 0) = false := by rw [beq_eq_false_iff_ne]; omega
 clear hs ha0 g
 go_enter Tryz.func78, Tryz.ntmps78
 go_wp2_with fail
 refine Sm (C1.out _) ?_
 go_wp2_with fail
 refine (C4.out _).mono ?_
 rintro e w' ⟨rfl, hb⟩
 go_wp2
 go_ret2
 exact ⟨rfl, hb⟩
theorem Qs (s : ByteArray) (a B : Nat) (w : World) (hs : s.size ≤ 140737488355328) (g : a < s.size) (hB : (s[a]'g).toNat = B) (n1 : B ≠ 46) (ha0 : a = 0)
    (C1 : Hid (∀ W, Cq 110 #[.string s, .int .i64 0] (.int .i64 (a : Nat)) W))
 :
    Ct 78 #[.string s] (.tuple #[.int .i64 0, .float .f64 0]) w := by
  have h1 : (s.size : Int) ≤ 140737488355328 := by omega
  have a1 : (0 : Int) ≤ (a : Int) := by omega
  have a2 : (a : Int) < (s.size : Int) := by omega
  have a3 : (a : Int) ≤ (s.size : Int) := by omega
  have e0 : ((s[a]'g).toNat : Int) = (B : Int) := by rw [hB]
  have e1 : ((B : Int) == 46) = false := by rw [beq_eq_false_iff_ne]; omega
  have e2 : ((a : Int) == 0) = true := by rw [beq_iff_eq]; omega
  clear hs ha0 hB n1
  go_enter Tryz.func78, Tryz.ntmps78
  go_wp2_with fail
  refine Sm (C1.out _) ?_
  go_wp2
  go_ret2
  exact ⟨rfl, Below.refl _ _⟩
theorem Rf (s : ByteArray) (a B F : Nat) (p : Int) (w : World) (hs : s.size ≤ 140737488355328) (g : a < s.size) (hB : (s[a]'g).toNat = B) (n1 : B ≠ 46) (ha0 : 0 < a)
  (C1 : Hid (∀ W, Cq 110 #[.string s, .int .i64 0] (.int .i64 (a : Nat)) W))
  (C4 : Hid (∀ W, Ct 111 #[.string s, .int .i64 ((a : Nat)), .string (s.extract 0 a), .int .i64 (0)] (.tuple #[.int .i64 p, .float .f64 F]) W)) :
  Ct 78 #[.string s] (.tuple #[.int .i64 p, .float .f64 F]) w := by
 have h1 : (s.size : Int) ≤ 140737488355328 := by omega
 have a1 : (0 : Int) ≤ (a : Int) := by omega
 have a2 : (a : Int) < (s.size : Int) := by omega
 have a3 : (a : Int) ≤ (s.size : Int) := by omega
 have e0 : ((s[a]'g).toNat : Int) = (B : Int) := by rw [hB]
 have e1 : ((B : Int) == 46) = false := by rw [beq_eq_false_iff_ne]; omega
 have e2 : ((a : Int) == 0) = false := by rw [beq_eq_false_iff_ne]; omega
 clear hs ha0 hB n1
 go_enter Tryz.func78, Tryz.ntmps78
 go_wp2_with fail
 refine Sm (C1.out _) ?_
 go_wp2_with fail
 refine (C4.out _).mono ?_
 rintro e w' ⟨rfl, hb⟩
 go_wp2
 go_ret2
 exact ⟨rfl, hb⟩
theorem Yy (s : ByteArray) (a b : Nat) (w : World) (hs : s.size ≤ 140737488355328) (g : a < s.size) (hB : (s[a]'g).toNat = 46) (ha0 : a = 0) (hb0 : b = 0) (hb : a + 1 + b ≤ s.size)
    (C1 : Hid (∀ W, Cq 110 #[.string s, .int .i64 0] (.int .i64 (a : Nat)) W))
    (C3 : Hid (∀ W, Cq 110 #[.string s, .int .i64 ((a : Int) + 1)] (.int .i64 (b : Nat)) W))
 :
    Ct 78 #[.string s] (.tuple #[.int .i64 0, .float .f64 0]) w := by
  have h1 : (s.size : Int) ≤ 140737488355328 := by omega
  have a1 : (0 : Int) ≤ (a : Int) := by omega
  have a2 : (a : Int) < (s.size : Int) := by omega
  have a3 : (a : Int) ≤ (s.size : Int) := by omega
  have e0 : ((s[a]'g).toNat : Int) = 46 := by rw [hB]; rfl
  have b1 : (a : Int) + 1 + (b : Int) ≤ (s.size : Int) := by omega
  have b2 : (0 : Int) ≤ (b : Int) := by omega
  have b3 : ((a : Int) + 1).toNat = a + 1 := by omega
  have b4 : ((a : Int) + 1 + (b : Int)).toNat = a + 1 + b := by omega
  have e2 : ¬ (0 : Int) < (a : Int) + (b : Int) := by omega
  have e3 : ((a : Int) == 0) = true := by rw [beq_iff_eq]; omega
  clear hs hB hb ha0 hb0
  go_enter Tryz.func78, Tryz.ntmps78
  go_wp2_with fail
  refine Sm (C1.out _) ?_
  go_wp2_with fail
  refine Sm (C3.out _) ?_
  go_wp2
  go_ret2
  exact ⟨rfl, Below.refl _ _⟩
theorem Vh (s : ByteArray) (a b F : Nat) (p : Int) (w : World) (hs : s.size ≤ 140737488355328) (g : a < s.size) (hB : (s[a]'g).toNat = 46) (h0 : 0 < a + b) (hb : a + 1 + b ≤ s.size)
  (C1 : Hid (∀ W, Cq 110 #[.string s, .int .i64 0] (.int .i64 (a : Nat)) W))
  (C3 : Hid (∀ W, Cq 110 #[.string s, .int .i64 ((a : Int) + 1)] (.int .i64 (b : Nat)) W))
  (C4 : Hid (∀ W, Ct 111 #[.string s, .int .i64 ((a : Int) + 1 + (b : Int)), .string (s.extract 0 a ++ s.extract (a + 1) (a + 1 + b)), .int .i64 (-(b : Int))] (.tuple #[.int .i64 p, .float .f64 F]) W)) :
  Ct 78 #[.string s] (.tuple #[.int .i64 p, .float .f64 F]) w := by
 have h1 : (s.size : Int) ≤ 140737488355328 := by omega
 have a1 : (0 : Int) ≤ (a : Int) := by omega
 have a2 : (a : Int) < (s.size : Int) := by omega
 have a3 : (a : Int) ≤ (s.size : Int) := by omega
 have e0 : ((s[a]'g).toNat : Int) = 46 := by rw [hB]; rfl
 have b1 : (a : Int) + 1 + (b : Int) ≤ (s.size : Int) := by omega
 have b2 : (0 : Int) ≤ (b : Int) := by omega
 have b3 : ((a : Int) + 1).toNat = a + 1 := by omega
 have b4 : ((a : Int) + 1 + (b : Int)).toNat = a + 1 + b := by omega
 have e2 : (0 : Int) < (a : Int) + (b : Int) := by omega
 have q3 : ¬ 9223372036854775807 < (s.extract 0 a).size + (s.extract (a + 1) (a + 1 + b)).size := by
  rw [ByteArray.size_extract, ByteArray.size_extract]
  omega
 clear hs hB hb h0
 go_enter Tryz.func78, Tryz.ntmps78
 go_wp2_with fail
 refine Sm (C1.out _) ?_
 go_wp2_with fail
 refine Sm (C3.out _) ?_
 go_wp2_with fail
 refine (C4.out _).mono ?_
 rintro e w' ⟨rfl, hb⟩
 go_wp2
 go_ret2
 exact ⟨rfl, hb⟩
theorem Xf (l : List Nat) : l.drop (Ag l).length = Al l := by
 conv => lhs; arg 2; rw [← Nd l]
 rw [List.drop_left]
theorem Pw (l : List Nat) : l.take (Ag l).length = Ag l := by
 conv => lhs; arg 2; rw [← Nd l]
 rw [List.take_left]
theorem Aft (s : ByteArray) (w : World) (hs : s.size ≤ 140737488355328) : Cq 110 #[.string s, .int .i64 0] (.int .i64 ((Ag (bl s)).length : Nat)) w := by
 have := Om s 0 w hs (by omega)
 rw [List.drop_zero] at this
 exact this
theorem Am8 (s : ByteArray) (i n : Nat) (h : i + n ≤ s.size) : s.extract i (i + n) = Ab (((bl s).drop i).take n) := by
 have h1 : (s.extract i s.size).extract 0 n = s.extract i (i + n) := by
  rw [ByteArray.extract_extract, Nat.add_zero, Nat.min_eq_left (by omega)]
 rw [← h1, Ez, Dv, Aj (fun c hc => Ks s c (List.mem_of_mem_drop hc))]
def lgN (l : List Nat) : Nat := if dB l = true then l.length - (dR l).length else 0
def lgV (l : List Nat) : Nat := if dB l = true then dV l else 0
theorem Kj (s : ByteArray) (w : World) (hs : s.size ≤ 140737488355320) :
  Ct 78 #[.string s] (.tuple #[.int .i64 (lgN (bl s) : Nat), .float .f64 (lgV (bl s))]) w := by
 obtain ⟨l, hl⟩ : ∃ l, bl s = l := ⟨_, rfl⟩
 have hbl := Bx s
 have hlt := Ks s
 have C1 := Lh (fun W => Aft s W (by omega))
 have C4 := fun at' f E W ha hd hf h1 h2 => Aek s at' f E W hs ha hd hf h1 h2
 have C3 := fun k W hk => Gh s k W (by omega) hk
 have hra := Cs l
 have hdr := Xf l
 have htk := Pw l
 have hex : s.extract 0 (Ag l).length = Ab (Ag l) := by rw [Dv, hl, htk]
 have hmid := fun i n h => Am8 s i n h
 rw [hl] at C1 hbl hlt C4 C3 hmid ⊢
 have r256 : ∀ c ∈ Ag l, Bw c = true := Ch l
 have nodot : Kk (Al l) = false → dF l = [] ∧ dT l = Al l := fun h => by
  unfold dF dT
  rw [h]
  exact ⟨rfl, rfl⟩
 have zero : dW l = [] → dF l = [] → dB l = false := fun h1 h2 => by
  unfold dB
  rw [h1, h2]
  rfl
 have pos1 : dW l ≠ [] → dB l = true := fun h => by
  unfold dB
  cases hw : dW l with
  | nil => exact absurd hw h
  | cons => rfl
 have pos2 : dF l ≠ [] → dB l = true := fun h => by
  unfold dB
  cases hw : dF l with
  | nil => exact absurd hw h
  | cons => simp
 obtain ⟨A, hA⟩ : ∃ A, Al l = A := ⟨_, rfl⟩
 have T0 := fun (h : Kk (Al l) = false) (h2 : dW l ≠ []) => (by
  obtain ⟨e1, e2⟩ := nodot h
  have := fun W => C4 (Ag l).length (Ag l) 0 W (by omega) r256 (by omega) (by omega) (by omega)
  have ev : dV l = Bg (num 10 (Ag l)) (0 + exV (Al l)) := by
   unfold dV dX
   rw [e1, e2, List.append_nil, List.length_nil]
   exact congrArg (Bg _) (by omega)
  have en : l.length - (dR l).length = s.size - (exR (Al l)).length := by unfold dR; rw [e2, hbl]
  rw [hdr, ← ev, ← en] at this
  unfold lgN lgV
  rw [if_pos (pos1 h2), if_pos (pos1 h2), hex]
  exact this : ∀ W, Ct 111 #[.string s, .int .i64 ((Ag l).length : Nat), .string (s.extract 0 (Ag l).length), .int .i64 0] (.tuple #[.int .i64 (lgN l : Nat), .float .f64 (lgV l)]) W)
 have Z0 := fun (h : dB l = false) => (by
  unfold lgN lgV
  rw [h]
  exact ⟨rfl, rfl⟩ : lgN l = 0 ∧ lgV l = 0)
 cases A with
 | nil =>
  have hn : (Ag l).length = s.size := by rw [hA, List.length_nil] at hra; omega
  have hdot : Kk (Al l) = false := by rw [hA]; rfl
  by_cases h0 : dW l = []
  ·obtain ⟨z1, z2⟩ := Z0 (zero h0 (nodot hdot).1)
   rw [z1, z2]
   exact W9 (s := s) (a := (Ag l).length) (w := w) (_hs := by omega) (g := hn) (ha0 := by have : Ag l = [] := h0; rw [this]; rfl) (C1 := C1)
  ·exact Yk (s := s) (a := (Ag l).length) (w := w) (hs := by omega) (g := hn) (ha0 := List.length_pos_iff.2 h0) (C1 := C1) (C4 := Lh (T0 hdot h0))
 | cons B t =>
  rw [hA] at hdr
  obtain ⟨hr, hc, _⟩ := Ga hdr
  obtain ⟨g, hB⟩ := Hi (s := s) (by rw [hl]; exact hc)
  by_cases hb : B = 46
  ·subst hb
   have hF : dF l = Ag t := by unfold dF; rw [hA]; rfl
   have hT : dT l = Al t := by unfold dT; rw [hA]; rfl
   have hrt := Cs t
   have hla := congrArg List.length hdr
   rw [List.length_drop, List.length_cons] at hla
   have C3' := Lh (fun W => C3 (Ag l).length W (by omega))
   rw [hr] at C3'
   by_cases h0 : 0 < (Ag l).length + (Ag t).length
   ·have hB2 : dB l = true := by
     by_cases h1 : dW l = []
     ·refine pos2 (fun e => ?_)
      rw [hF] at e
      have h2 : Ag l = [] := h1
      rw [h2, e] at h0
      exact absurd h0 (by simp)
     ·exact pos1 h1
    have T1 := fun W => C4 ((Ag l).length + 1 + (Ag t).length) (Ag l ++ Ag t) (-((Ag t).length : Int)) W (by omega) (fun c hc => by
     rcases List.mem_append.1 hc with h | h
     ·exact Ch _ c h
     ·exact Ch _ c h) (by rw [List.length_append]; omega) (by omega) (by omega)
    have hd2 : l.drop ((Ag l).length + 1 + (Ag t).length) = Al t := by rw [← List.drop_drop, hr, Xf]
    have ev : dV l = Bg (num 10 (Ag l ++ Ag t)) (-((Ag t).length : Int) + exV (Al t)) := by
     unfold dV dX dW
     rw [hF, hT]
     exact congrArg (Bg _) (by omega)
    have en : l.length - (dR l).length = s.size - (exR (Al t)).length := by unfold dR; rw [hT, hbl]
    have hex2 : s.extract 0 (Ag l).length ++ s.extract ((Ag l).length + 1) ((Ag l).length + 1 + (Ag t).length) = Ab (Ag l ++ Ag t) := by
     rw [hex, hmid _ _ (by omega), hr, Pw, Ai]
    rw [hd2, ← ev, ← en, ← hex2, show (((Ag l).length + 1 + (Ag t).length : Nat) : Int) = ((Ag l).length : Int) + 1 + ((Ag t).length : Int) by omega] at T1
    unfold lgN lgV
    rw [if_pos hB2, if_pos hB2]
    exact Vh (s := s) (a := (Ag l).length) (b := (Ag t).length) (w := w) (hs := by omega) (g := g) (hB := hB) (h0 := h0) (hb := by omega) (C1 := C1) (C3 := C3') (C4 := Lh T1)
   ·have h1 : Ag l = [] := List.length_eq_zero_iff.1 (by omega)
    have h2 : Ag t = [] := List.length_eq_zero_iff.1 (by omega)
    obtain ⟨z1, z2⟩ := Z0 (zero h1 (by rw [hF, h2]))
    rw [z1, z2]
    exact Yy (s := s) (a := (Ag l).length) (b := (Ag t).length) (w := w) (hs := by omega) (g := g) (hB := hB) (ha0 := by rw [h1]; rfl) (hb0 := by rw [h2]; rfl) (hb := by omega) (C1 := C1) (C3 := C3')
  ·have hdot : Kk (Al l) = false := by rw [hA]; unfold Kk; rw [List.head?_cons, beq_eq_false_iff_ne]; exact fun e => hb (Option.some.inj e)
   by_cases h0 : dW l = []
   ·obtain ⟨z1, z2⟩ := Z0 (zero h0 (nodot hdot).1)
    rw [z1, z2]
    exact Qs (s := s) (a := (Ag l).length) (B := B) (w := w) (hs := by omega) (g := g) (hB := hB) (n1 := hb) (ha0 := by have : Ag l = [] := h0; rw [this]; rfl) (C1 := C1)
   ·have T2 := T0 hdot h0
    exact Rf (s := s) (a := (Ag l).length) (B := B) (w := w) (hs := by omega) (g := g) (hB := hB) (n1 := hb) (ha0 := List.length_pos_iff.2 h0) (C1 := C1) (C4 := Lh T2)
end
section
theorem Aju (s : ByteArray) (K N r : Nat) (w : World) (hs : s.size ≤ 281474976710656) (hK : K ≤ s.size) (hN : s.size - K = N)
  (Z1 : Hid (∀ k (h : k < s.size), k < K → (s[k]'h).toNat = 48)) (Z2 : Hid (∀ h : K < s.size, (s[K]'h).toNat ≠ 48)) (hN0 : 1100 < N) :
  Ct 109 #[.string s, .int .i64 r] (.float .f64 9218868437227405312) w := by
 have h1 : (s.size : Int) ≤ 281474976710656 := by omega
 have HN := Lh hN
 have HK := Lh hK
 have HN0 := Lh hN0
 have C3 := Lh (fun W => Dy W)
 clear hs hK hN hN0
 go_enter Tryz.func109, Tryz.ntmps109
 go_wp2
 go_loopw [5] (fun i wr => ∃ k : Nat, i = .int .i64 k ∧ k ≤ K ∧ w = wr) (fun i _ => K - (intOf i).toNat)
 case atStart => exact ⟨0, rfl, Nat.zero_le _, rfl⟩
 case round =>
  obtain ⟨k, rfl, hk, rfl⟩ := hrel
  have hk2 := HK.out
  by_cases hlt : k < K
  ·have hks : k < s.size := by omega
   have e0 : ((s[k]'hks).toNat : Int) = 48 := by rw [Z1.out k hks hlt]; rfl
   have a2 : (k : Int) < (s.size : Int) := by omega
   have a1 : (0 : Int) ≤ (k : Int) := by omega
   clear hk2
   go_wp2
   exact ⟨⟨k + 1, by go_num, by omega, trivial⟩, by simp [intOf]; omega⟩
  ·obtain rfl : k = K := by omega
   have hz : k < s.size := by have := HN.out; have := HN0.out; omega
   obtain ⟨B, hB⟩ : ∃ B : Nat, (s[k]'hz).toNat = B := ⟨_, rfl⟩
   have hB48 := Z2.out hz
   rw [hB] at hB48
   have e0 : ((s[k]'hz).toNat : Int) = (B : Int) := by rw [hB]
   have e1 : ((B : Int) == 48) = false := by rw [beq_eq_false_iff_ne]; omega
   have a2 : (k : Int) < (s.size : Int) := by omega
   have a1 : (0 : Int) ≤ (k : Int) := by omega
   have a3 : (k : Int) ≤ (s.size : Int) := by omega
   have a4 : ((s.size - k : Nat) : Int) = (N : Int) := by rw [HN.out]
   have t1 : decide ((1100 : Int) < (N : Int)) = true := decide_eq_true (by have := HN0.out; omega)
   clear hk2 hB hB48
   go_wp2_with fail
   refine Sm (C3.out _) ?_
   go_wp2
   go_ret
   exact ⟨rfl, Below.refl _ _⟩
theorem Ahc (s g : ByteArray) (K N r F : Nat) (w : World) (hs : s.size ≤ 281474976710656) (hK : K ≤ s.size) (hN : s.size - K = N)
  (Z1 : Hid (∀ k (h : k < s.size), k < K → (s[k]'h).toNat = 48)) (Z2 : Hid (∀ h : K < s.size, (s[K]'h).toNat ≠ 48)) (hN0 : ¬ 1100 < N)
  (hg : s.extract K s.size = g) (hgN : g.size = N) (h2 : 2 ≤ r) (h36 : r ≤ 36) (hd : ∀ i, i < g.size → dgt (btn g i) < r)
  (HL : Hid (∀ o, o ≤ N → (wds (pv r (fun i => dgt (btn g i)) o)).length ≤ 940))
  (C7 : Hid (∀ W A n c, NV W A n c (pv r (fun i => dgt (btn g i)) N) → Ct 139 #[.slice A n c, .int .i64 0] (.float .f64 F) W)) :
  Ct 109 #[.string s, .int .i64 r] (.float .f64 F) w := by
 have h1 : (s.size : Int) ≤ 281474976710656 := by omega
 have HN := Lh hN
 have HK := Lh hK
 have HN0 := Lh hN0
 have HG := Lh hg
 have HGN := Lh hgN
 have HD := Lh hd
 have H2 := Lh h2
 have H36 := Lh h36
 have kr : IntKind.u32.wrap (r : Int) = (r : Int) := IntWalk.u32_in _ (by omega)
 clear hs hK hN hN0 hg hgN hd h2 h36
 go_enter Tryz.func109, Tryz.ntmps109
 go_wp2
 go_loopw [5] (fun i wr => ∃ k : Nat, i = .int .i64 k ∧ k ≤ K ∧ w = wr) (fun i _ => K - (intOf i).toNat)
 case atStart => exact ⟨0, rfl, Nat.zero_le _, rfl⟩
 case round =>
  obtain ⟨k, rfl, hk, rfl⟩ := hrel
  have hk2 := HK.out
  by_cases hlt : k < K
  ·have hks : k < s.size := by omega
   have e0 : ((s[k]'hks).toNat : Int) = 48 := by rw [Z1.out k hks hlt]; rfl
   have a2 : (k : Int) < (s.size : Int) := by omega
   have a1 : (0 : Int) ≤ (k : Int) := by omega
   clear hk2
   go_wp2
   exact ⟨⟨k + 1, by go_num, by omega, trivial⟩, by simp [intOf]; omega⟩
  ·obtain rfl : k = K := by omega
   have a1 : (0 : Int) ≤ (k : Int) := by omega
   have a3 : (k : Int) ≤ (s.size : Int) := by omega
   have hext : s.extract k s.size = g := HG.out
   have b4 : (g.size : Int) = (N : Int) := by rw [HGN.out]
   have t1 : decide ((1100 : Int) < (N : Int)) = false := decide_eq_false (by have := HN0.out; omega)
   have main : ∀ Q : Prop, Q → Q := fun _ h => h
   by_cases hz : k < s.size
   ·obtain ⟨B, hB⟩ : ∃ B : Nat, (s[k]'hz).toNat = B := ⟨_, rfl⟩
    have hB48 := Z2.out hz
    rw [hB] at hB48
    have e0 : ((s[k]'hz).toNat : Int) = (B : Int) := by rw [hB]
    have e1 : ((B : Int) == 48) = false := by rw [beq_eq_false_iff_ne]; omega
    have a2 : (k : Int) < (s.size : Int) := by omega
    clear hk2 hB hB48 main
    go_wp2
    clear a1 a2 a3 e0 e1 hext b4 t1 hz
    go_loopw [6, 7] (fun av iv wr => ∃ o : Nat, iv = .int .i64 (o : Nat) ∧ o ≤ N ∧ Hid (Sl wr wr.heap.size av (wds (pv r (fun i => dgt (btn g i)) o))) ∧ Below w.heap.size w wr) (fun _ iv _ => N - (intOf iv).toNat)
    case atStart => exact ⟨0, rfl, Nat.zero_le _, Lh (Sl.nil _ _ _), Below.refl _ _⟩
    case round =>
     obtain ⟨o, rfl, ho, HS, hbw⟩ := hrel
     have hle := HL.out o ho
     obtain ⟨V, hV⟩ : ∃ V, pv r (fun i => dgt (btn g i)) o = V := ⟨_, rfl⟩
     rw [hV] at HS hle
     have HV := Lh hV
     obtain ⟨A0, c0, rfl, hc0, hr0⟩ := HS.out
     obtain ⟨L0, hL0⟩ : ∃ L, (wds V).length = L := ⟨_, rfl⟩
     rw [hL0] at hc0 hle ⊢
     by_cases hlt : o < N
     ·have hgo : o < g.size := by rw [HGN.out]; exact hlt
      have hd := HD.out o hgo
      have hb4 : (g.size : Int) = (N : Int) := by rw [HGN.out]
      have hx1 : (o : Int) < (N : Int) := by omega
      have hx2 : (o : Int) < (g.size : Int) := by omega
      have hx3 : (0 : Int) ≤ (o : Int) := by omega
      have hN1 : (N : Int) ≤ 1100 := by have := HN0.out; omega
      have C1 := Lh (fun W => show Cp 108 #[.int .u8 ((g[o]'hgo).toNat : Nat)] W fun e w' => e = .returned (.int .i64 (dgt (btn g o) : Nat)) ∧ W = w' from by
       rw [D9 g o hgo, ← H7 H36.out hd]; exact Cz _ W (Fw g o))
      have hpv : pv r (fun i => dgt (btn g i)) (o + 1) = V * r + dgt (btn g o) := by rw [← hV]; rfl
      have hd36 := Nz (btn g o)
      obtain ⟨d, hde⟩ : ∃ d, dgt (btn g o) = d := ⟨_, rfl⟩
      rw [hde] at C1 hpv hd36
      have kd : IntKind.u32.wrap (d : Int) = (d : Int) := IntWalk.u32_in _ (by omega)
      obtain ⟨L1, hL1⟩ : ∃ L, (wds (V * r)).length = L := ⟨_, rfl⟩
      obtain ⟨L2, hL2⟩ : ∃ L, (wds (V * r + d)).length = L := ⟨_, rfl⟩
      have l1 : L1 ≤ 1025 := by
       have h1 := Fc V r
       have h3 : (wds r).length ≤ 1 := Bi (by have := H36.out; omega)
       omega
      have K1 := Lh (fun W g' (hb : Below wr.heap.size wr W) (g1 : RW W W.heap.size (some ⟨g', 0, none⟩) [r]) => show Cp 138 #[.slice A0 L0 c0, .slice (some ⟨g', 0, none⟩) 1 1] W (Jq (wds (V * r)) L1 W) from by
       have := O9 A0 L0 c0 g' r (wds V) L1 W hL0 (by omega) (hr0.step hb) g1 (by rw [Ad]; exact hL1)
       rw [Ad] at this; exact this)
      have K2 := Lh (fun W A2 c2 g' (r2 : RW W W.heap.size A2 (wds (V * r))) (g1 : RW W W.heap.size (some ⟨g', 0, none⟩) [d]) => show Cp 137 #[.slice A2 L1 c2, .slice (some ⟨g', 0, none⟩) 1 1] W (Jq (wds (V * r + d)) L2 W) from by
       have := Tp A2 L1 c2 g' d (wds (V * r)) L2 W hL1 (by omega) r2 g1 (by rw [Ad]; exact hL2)
       rw [Ad] at this; exact this)
      have HLR := Lh (fun W => Hu W r (by have := H36.out; omega))
      have HLD := Lh (fun W => Hu W d (by omega))
      have HPV := Lh hpv
      have HL2 := Lh hL2
      clear hpv hL2
      clear hV hL0 hle hc0 hr0 hd hde hd36 hL1 l1
      go_wp2
      go_region_held3 (fun w' => True) (trivial) (first | (go_at_call 138; refine (K1.out _ _ (Ae ((Below.refl _ _).alloc (Nat.le_refl _) _) 1) ((HLR.out wr).drewN 1)).mono ?_; rintro e w2 ⟨A2, c2, rfl, ⟨hc2, r2⟩, b2⟩) | (go_at_call 108; refine (C1.out _).mono ?_; rintro e w' ⟨rfl, rfl⟩) | (go_at_call 137; refine (K2.out _ _ _ _ (r2.step ((Below.refl _ _).alloc (Nat.le_refl _) _)) (HLD.out _)).mono ?_; rintro e w3 ⟨A3, c3, rfl, ⟨hc3, r3⟩, b3⟩))
      all_goals
       have B2 : Below w.heap.size w w2 := Aa (Ae (hbw.alloc hbw.size _) 1) b2
       have B3 : Below w.heap.size w w3 := Aa (B2.alloc B2.size _) b3
       clear r2 b2 b3 B2 hc2 K1 K2
       have HSL := Lh (⟨A3, c3, by rw [HL2.out], by rw [HL2.out]; exact hc3, r3⟩ : Sl w3 w3.heap.size (.slice A3 L2 c3) (wds (V * r + d)))
       have HB3 := Lh B3
       clear r3 hc3 B3
       go_wp2
       exact ⟨⟨o + 1, by go_num, by omega, Lh (by rw [HPV.out]; exact HSL.out), HB3.out⟩, by simp [intOf]; omega⟩
     ·obtain rfl : o = N := by omega
      have HNV := Lh (show NV wr A0 L0 c0 (pv r (fun i => dgt (btn g i)) o) from ⟨by rw [HV.out]; exact hL0, hc0, by rw [HV.out]; exact hr0⟩)
      have hb4 : (g.size : Int) = (o : Int) := by rw [HGN.out]
      have b0 : ¬ (o : Int) < (o : Int) := by omega
      clear hlt hc0 hr0 hL0 hle hV
      go_wp2_with fail
      refine Bm (C7.out _ _ _ _ HNV.out) fun w4 b4 => ?_
      have B4 := Lh (Aa hbw b4)
      clear b4
      go_wp2
      go_ret
      exact ⟨rfl, B4.out⟩
   ·have a2 : ¬ (k : Int) < (s.size : Int) := by omega
    clear hk2 main
    go_wp2
    clear a1 a2 a3 hext b4 t1 hz
    go_loopw [6, 7] (fun av iv wr => ∃ o : Nat, iv = .int .i64 (o : Nat) ∧ o ≤ N ∧ Hid (Sl wr wr.heap.size av (wds (pv r (fun i => dgt (btn g i)) o))) ∧ Below w.heap.size w wr) (fun _ iv _ => N - (intOf iv).toNat)
    case atStart => exact ⟨0, rfl, Nat.zero_le _, Lh (Sl.nil _ _ _), Below.refl _ _⟩
    case round =>
     obtain ⟨o, rfl, ho, HS, hbw⟩ := hrel
     have hle := HL.out o ho
     obtain ⟨V, hV⟩ : ∃ V, pv r (fun i => dgt (btn g i)) o = V := ⟨_, rfl⟩
     rw [hV] at HS hle
     have HV := Lh hV
     obtain ⟨A0, c0, rfl, hc0, hr0⟩ := HS.out
     obtain ⟨L0, hL0⟩ : ∃ L, (wds V).length = L := ⟨_, rfl⟩
     rw [hL0] at hc0 hle ⊢
     by_cases hlt : o < N
     ·have hgo : o < g.size := by rw [HGN.out]; exact hlt
      have hd := HD.out o hgo
      have hb4 : (g.size : Int) = (N : Int) := by rw [HGN.out]
      have hx1 : (o : Int) < (N : Int) := by omega
      have hx2 : (o : Int) < (g.size : Int) := by omega
      have hx3 : (0 : Int) ≤ (o : Int) := by omega
      have hN1 : (N : Int) ≤ 1100 := by have := HN0.out; omega
      have C1 := Lh (fun W => show Cp 108 #[.int .u8 ((g[o]'hgo).toNat : Nat)] W fun e w' => e = .returned (.int .i64 (dgt (btn g o) : Nat)) ∧ W = w' from by
       rw [D9 g o hgo, ← H7 H36.out hd]; exact Cz _ W (Fw g o))
      have hpv : pv r (fun i => dgt (btn g i)) (o + 1) = V * r + dgt (btn g o) := by rw [← hV]; rfl
      have hd36 := Nz (btn g o)
      obtain ⟨d, hde⟩ : ∃ d, dgt (btn g o) = d := ⟨_, rfl⟩
      rw [hde] at C1 hpv hd36
      have kd : IntKind.u32.wrap (d : Int) = (d : Int) := IntWalk.u32_in _ (by omega)
      obtain ⟨L1, hL1⟩ : ∃ L, (wds (V * r)).length = L := ⟨_, rfl⟩
      obtain ⟨L2, hL2⟩ : ∃ L, (wds (V * r + d)).length = L := ⟨_, rfl⟩
      have l1 : L1 ≤ 1025 := by
       have h1 := Fc V r
       have h3 : (wds r).length ≤ 1 := Bi (by have := H36.out; omega)
       omega
      have K1 := Lh (fun W g' (hb : Below wr.heap.size wr W) (g1 : RW W W.heap.size (some ⟨g', 0, none⟩) [r]) => show Cp 138 #[.slice A0 L0 c0, .slice (some ⟨g', 0, none⟩) 1 1] W (Jq (wds (V * r)) L1 W) from by
       have := O9 A0 L0 c0 g' r (wds V) L1 W hL0 (by omega) (hr0.step hb) g1 (by rw [Ad]; exact hL1)
       rw [Ad] at this; exact this)
      have K2 := Lh (fun W A2 c2 g' (r2 : RW W W.heap.size A2 (wds (V * r))) (g1 : RW W W.heap.size (some ⟨g', 0, none⟩) [d]) => show Cp 137 #[.slice A2 L1 c2, .slice (some ⟨g', 0, none⟩) 1 1] W (Jq (wds (V * r + d)) L2 W) from by
       have := Tp A2 L1 c2 g' d (wds (V * r)) L2 W hL1 (by omega) r2 g1 (by rw [Ad]; exact hL2)
       rw [Ad] at this; exact this)
      have HLR := Lh (fun W => Hu W r (by have := H36.out; omega))
      have HLD := Lh (fun W => Hu W d (by omega))
      have HPV := Lh hpv
      have HL2 := Lh hL2
      clear hpv hL2
      clear hV hL0 hle hc0 hr0 hd hde hd36 hL1 l1
      go_wp2
      go_region_held3 (fun w' => True) (trivial) (first | (go_at_call 138; refine (K1.out _ _ (Ae ((Below.refl _ _).alloc (Nat.le_refl _) _) 1) ((HLR.out wr).drewN 1)).mono ?_; rintro e w2 ⟨A2, c2, rfl, ⟨hc2, r2⟩, b2⟩) | (go_at_call 108; refine (C1.out _).mono ?_; rintro e w' ⟨rfl, rfl⟩) | (go_at_call 137; refine (K2.out _ _ _ _ (r2.step ((Below.refl _ _).alloc (Nat.le_refl _) _)) (HLD.out _)).mono ?_; rintro e w3 ⟨A3, c3, rfl, ⟨hc3, r3⟩, b3⟩))
      all_goals
       have B2 : Below w.heap.size w w2 := Aa (Ae (hbw.alloc hbw.size _) 1) b2
       have B3 : Below w.heap.size w w3 := Aa (B2.alloc B2.size _) b3
       clear r2 b2 b3 B2 hc2 K1 K2
       have HSL := Lh (⟨A3, c3, by rw [HL2.out], by rw [HL2.out]; exact hc3, r3⟩ : Sl w3 w3.heap.size (.slice A3 L2 c3) (wds (V * r + d)))
       have HB3 := Lh B3
       clear r3 hc3 B3
       go_wp2
       exact ⟨⟨o + 1, by go_num, by omega, Lh (by rw [HPV.out]; exact HSL.out), HB3.out⟩, by simp [intOf]; omega⟩
     ·obtain rfl : o = N := by omega
      have HNV := Lh (show NV wr A0 L0 c0 (pv r (fun i => dgt (btn g i)) o) from ⟨by rw [HV.out]; exact hL0, hc0, by rw [HV.out]; exact hr0⟩)
      have hb4 : (g.size : Int) = (o : Int) := by rw [HGN.out]
      have b0 : ¬ (o : Int) < (o : Int) := by omega
      clear hlt hc0 hr0 hL0 hle hV
      go_wp2_with fail
      refine Bm (C7.out _ _ _ _ HNV.out) fun w4 b4 => ?_
      have B4 := Lh (Aa hbw b4)
      clear b4
      go_wp2
      go_ret
      exact ⟨rfl, B4.out⟩
theorem Ta (l : List Nat) (r : Nat) (w : World) (h2 : 2 ≤ r) (h36 : r ≤ 36) (hd : ∀ c ∈ l, dgt c < r) (hb : ∀ c ∈ l, c < 256) (hs : l.length ≤ 281474976710656) :
  Ct 109 #[.string (Ab l), .int .i64 r] (.float .f64 (F2 r l)) w := by
 have hbl := Aj hb
 have hz := Af l
 have hgl : (ldz l).length ≤ l.length := (List.dropWhile_sublist _).length_le
 have hdr := Wv l
 have hex : (Ab l).extract (l.length - (ldz l).length) (Ab l).size = Ab (ldz l) := by rw [Ez, hbl, hdr]
 have hgb : ∀ c ∈ ldz l, c < 256 := fun c hc => hb c (Fd hc)
 have hgd : ∀ c ∈ ldz l, dgt c < r := fun c hc => hd c (Fd hc)
 have Z1 : Hid (∀ k (h : k < (Ab l).size), k < l.length - (ldz l).length → ((Ab l)[k]'h).toNat = 48) := Lh (fun k h hk => by
  have h1 := De (Ab l) k h
  rw [hbl, Rm l k hk] at h1
  exact (Option.some.inj h1).symm)
 have Z2 : Hid (∀ h : l.length - (ldz l).length < (Ab l).size, ((Ab l)[l.length - (ldz l).length]'h).toNat ≠ 48) := Lh (fun h e => by
  have h1 := De (Ab l) _ h
  rw [hbl, e] at h1
  have h2 : (l.drop (l.length - (ldz l).length)).head? = some 48 := by rw [List.head?_drop]; exact h1
  rw [hdr] at h2
  exact Cf l h2)
 obtain ⟨N, hN⟩ : ∃ N, (ldz l).length = N := ⟨_, rfl⟩
 obtain ⟨K, hK⟩ : ∃ K, l.length - (ldz l).length = K := ⟨_, rfl⟩
 rw [hK] at hex Z1 Z2
 by_cases h : 1100 < N
 ·have key : F2 r l = 9218868437227405312 := by
   rw [← Rh]
   obtain ⟨D, hD⟩ : ∃ D : Nat, D = 1024 := ⟨_, rfl⟩
   refine Ww hD ?_
   refine Nat.le_trans ?_ (Vs (r := r) (fun e => by rw [e] at hN; simp at hN; omega) (Cf l))
   exact Nat.le_trans (Nat.pow_le_pow_left h2 D) (Nat.pow_le_pow_right (by omega) (by omega))
  rw [key]
  exact Aju (Ab l) K N r w (by omega) (by omega) (by omega) Z1 Z2 h
 ·have hbg := Aj hgb
  have hgs := Af (ldz l)
  have hbt : ∀ i, i < (Ab (ldz l)).size → dgt (btn (Ab (ldz l)) i) < r := fun i hi => by
   rw [Uh _ _ hi, hbg, List.getD_eq_getElem?_getD, List.getElem?_eq_getElem (by omega)]
   exact hgd _ (List.getElem_mem _)
  have hsv : pv r (fun i => dgt (btn (Ab (ldz l)) i)) N = num r l := by
   have := Sr r (Ab (ldz l))
   rw [hbg] at this
   unfold sv at this
   rw [hgs, hN] at this
   rw [this]
   exact Cy r l
  have hnum : num r (ldz l) = num r l := Cy r l
  have hbn : bln (num r l) ≤ 30000 := by
   rw [← hnum]
   have a1 := Ce (Nat.le_of_lt (Zy hgd))
   have a2 := Nw r (ldz l).length
   have a3 : bln r ≤ 6 := Fy (by omega)
   have a4 : bln r * (ldz l).length ≤ 6 * 1100 := Nat.mul_le_mul a3 (by omega)
   omega
  have HL : Hid (∀ o, o ≤ N → (wds (pv r (fun i => dgt (btn (Ab (ldz l)) i)) o)).length ≤ 940) := Lh (fun o ho => by
   have h1 := Ne (r := r) (g := fun i => dgt (btn (Ab (ldz l)) i)) (by omega) ho
   rw [hsv] at h1
   exact At (Nat.le_trans (Ce h1) hbn))
  refine Ahc (Ab l) (Ab (ldz l)) K N r (F2 r l) w (by omega) (by omega) (by omega) Z1 Z2 h hex (by omega) h2 h36 hbt HL (Lh (fun W A n c g => ?_))
  rw [hsv] at g
  obtain ⟨K0, hK0, hdd⟩ := Fz
  have := Ur g hbn K0 0 0 (by omega) (by omega) (by omega)
  unfold F2
  rw [hdd, show (0 : Int).toNat = 0 from rfl, show (-(0 : Int)).toNat = 0 from rfl, Nat.pow_zero, Nat.mul_one]
  exact this
end
section
theorem Aau (s : ByteArray) (w : World) (h : s.size < 3) :
  Cq 77 #[.string s] (.tuple #[.float .f64 0, .bool false]) w := by
 have a1 : (s.size : Int) < 3 := by omega
 clear h
 go_enter Tryz.func77, Tryz.ntmps77
 go_wp2
 go_ret2
 exact ⟨rfl, rfl⟩
theorem Apj (s : ByteArray) (B : Nat) (w : World) (h : 3 ≤ s.size) (g0 : 0 < s.size) (h0 : (s[0]'g0).toNat = B) (n0 : B ≠ 48) :
  Cq 77 #[.string s] (.tuple #[.float .f64 0, .bool false]) w := by
 have a1 : ¬ (s.size : Int) < 3 := by omega
 have a2 : (0 : Int) < (s.size : Int) := by omega
 have e0 : ((s[0]'g0).toNat : Int) = (B : Int) := by rw [h0]
 have e1 : ((B : Int) != 48) = true := by rw [bne_iff_ne]; omega
 clear h h0 n0
 go_enter Tryz.func77, Tryz.ntmps77
 go_wp2
 go_ret2
 exact ⟨rfl, rfl⟩
theorem Ao7 (s : ByteArray) (B : Nat) (w : World) (h : 3 ≤ s.size) (g0 : 0 < s.size) (h0 : (s[0]'g0).toNat = 48) (g1 : 1 < s.size) (h1 : (s[1]'g1).toNat = B) (n1 : B ≠ 120) (n2 : B ≠ 88) :
  Cq 77 #[.string s] (.tuple #[.float .f64 0, .bool false]) w := by
 have a1 : ¬ (s.size : Int) < 3 := by omega
 have a2 : (1 : Int) < (s.size : Int) := by omega
 have e0 : ((s[0]'g0).toNat : Int) = 48 := by rw [h0]; rfl
 have e1 : ((s[1]'g1).toNat : Int) = (B : Int) := by rw [h1]
 have e2 : ((B : Int) != 120) = true := by rw [bne_iff_ne]; omega
 have e3 : ((B : Int) != 88) = true := by rw [bne_iff_ne]; omega
 clear h h0 h1 n1 n2
 go_enter Tryz.func77, Tryz.ntmps77
 go_wp2
 go_ret2
 exact ⟨rfl, rfl⟩
theorem Abj (s : ByteArray) (J : Nat) (w : World) (hs : s.size ≤ 281474976710656) (h : 3 ≤ s.size) (g0 : 0 < s.size) (h0 : (s[0]'g0).toNat = 48) (g1 : 1 < s.size) (h1 : (s[1]'g1).toNat = 120)
  (hJ : ∀ i, 2 ≤ i → i < J → dgt (btn s i) < 16) (hJ2 : 2 ≤ J) (hJs : J < s.size) (hJn : ¬ dgt (btn s J) < 16) :
  Cq 77 #[.string s] (.tuple #[.float .f64 0, .bool false]) w := by
 have a0 : (s.size : Int) ≤ 281474976710656 := by omega
 have a1 : ¬ (s.size : Int) < 3 := by omega
 have a2 : (1 : Int) < (s.size : Int) := by omega
 have a3 : (2 : Int) ≤ (s.size : Int) := by omega
 have e0 : ((s[0]'g0).toNat : Int) = 48 := by rw [h0]; rfl
 have e1 : ((s[1]'g1).toNat : Int) = 120 := by rw [h1]; rfl
 have HJ := Lh hJ
 have HJ2 := Lh hJ2
 have HJS := Lh hJs
 have HJN := Lh hJn
 clear hs h h0 h1 hJ hJ2 hJs hJn
 go_enter Tryz.func77, Tryz.ntmps77
 go_wp2
 clear e0 e1 a1
 go_loopw [4] (fun i wr => ∃ k : Nat, i = .int .i64 k ∧ 2 ≤ k ∧ k ≤ J ∧ w = wr) (fun i _ => J - (intOf i).toNat)
 case atStart => exact ⟨2, rfl, Nat.le_refl _, HJ2.out, rfl⟩
 case round =>
  obtain ⟨k, rfl, hk2, hk, rfl⟩ := hrel
  by_cases hlt : k < J
  ·have hks : k < s.size := by have := HJS.out; omega
   have C1 := Lh (fun W => show Cp 108 #[.int .u8 ((s[k]'hks).toNat : Nat)] W fun e w' => e = .returned (.int .i64 (dgt (btn s k) : Nat)) ∧ W = w' from by
    rw [D9 s k hks, ← H7 (r := 16) (by omega) (HJ.out k hk2 hlt)]; exact Cz _ W (Fw s k))
   have hd := HJ.out k hk2 hlt
   obtain ⟨d, hde⟩ : ∃ d, dgt (btn s k) = d := ⟨_, rfl⟩
   rw [hde] at C1 hd
   have b1 : ¬ (16 : Int) ≤ (d : Int) := by omega
   have b2 : (k : Int) < (s.size : Int) := by omega
   have b3 : (0 : Int) ≤ (k : Int) := by omega
   clear hde hd
   go_wp2_with fail
   refine Sm (C1.out _) ?_
   go_wp2
   exact ⟨⟨k + 1, by go_num, by omega, by omega, trivial⟩, by simp [intOf]; omega⟩
  ·obtain rfl : k = J := by omega
   have hks : k < s.size := HJS.out
   have C1 := Lh (fun W => show Cp 108 #[.int .u8 ((s[k]'hks).toNat : Nat)] W fun e w' => e = .returned (.int .i64 (dgz (btn s k) : Nat)) ∧ W = w' from by
    rw [D9 s k hks]; exact Cz _ W (Fw s k))
   have hd : ¬ dgz (btn s k) < 16 := fun h => HJN.out ((Ahu (by omega)).1 h)
   obtain ⟨d, hde⟩ : ∃ d, dgz (btn s k) = d := ⟨_, rfl⟩
   rw [hde] at C1 hd
   have b1 : (16 : Int) ≤ (d : Int) := by omega
   have b2 : (k : Int) < (s.size : Int) := by omega
   have b3 : (0 : Int) ≤ (k : Int) := by omega
   clear hde hd
   go_wp2_with fail
   refine Sm (C1.out _) ?_
   go_wp2
   go_ret2
   exact ⟨rfl, rfl⟩
theorem Aal (s : ByteArray) (J F : Nat) (w : World) (hs : s.size ≤ 281474976710656) (h : 3 ≤ s.size) (g0 : 0 < s.size) (h0 : (s[0]'g0).toNat = 48) (g1 : 1 < s.size) (h1 : (s[1]'g1).toNat = 120)
  (hJ : ∀ i, 2 ≤ i → i < J → dgt (btn s i) < 16) (hJ2 : 2 ≤ J) (hJs : J = s.size)
  (C2 : Hid (∀ W, Ct 109 #[.string (s.extract 2 s.size), .int .i64 16] (.float .f64 F) W)) :
  Ct 77 #[.string s] (.tuple #[.float .f64 F, .bool true]) w := by
 have a0 : (s.size : Int) ≤ 281474976710656 := by omega
 have a1 : ¬ (s.size : Int) < 3 := by omega
 have a2 : (1 : Int) < (s.size : Int) := by omega
 have a3 : (2 : Int) ≤ (s.size : Int) := by omega
 have e0 : ((s[0]'g0).toNat : Int) = 48 := by rw [h0]; rfl
 have e1 : ((s[1]'g1).toNat : Int) = 120 := by rw [h1]; rfl
 have HJ := Lh hJ
 have HJ2 := Lh hJ2
 have HJS := Lh hJs
 clear hs h h0 h1 hJ hJ2 hJs
 go_enter Tryz.func77, Tryz.ntmps77
 go_wp2
 clear e0 e1 a1
 go_loopw [4] (fun i wr => ∃ k : Nat, i = .int .i64 k ∧ 2 ≤ k ∧ k ≤ J ∧ w = wr) (fun i _ => J - (intOf i).toNat)
 case atStart => exact ⟨2, rfl, Nat.le_refl _, HJ2.out, rfl⟩
 case round =>
  obtain ⟨k, rfl, hk2, hk, rfl⟩ := hrel
  by_cases hlt : k < J
  ·have hks : k < s.size := by have := HJS.out; omega
   have C1 := Lh (fun W => show Cp 108 #[.int .u8 ((s[k]'hks).toNat : Nat)] W fun e w' => e = .returned (.int .i64 (dgt (btn s k) : Nat)) ∧ W = w' from by
    rw [D9 s k hks, ← H7 (r := 16) (by omega) (HJ.out k hk2 hlt)]; exact Cz _ W (Fw s k))
   have hd := HJ.out k hk2 hlt
   obtain ⟨d, hde⟩ : ∃ d, dgt (btn s k) = d := ⟨_, rfl⟩
   rw [hde] at C1 hd
   have b1 : ¬ (16 : Int) ≤ (d : Int) := by omega
   have b2 : (k : Int) < (s.size : Int) := by omega
   have b3 : (0 : Int) ≤ (k : Int) := by omega
   clear hde hd
   go_wp2_with fail
   refine Sm (C1.out _) ?_
   go_wp2
   exact ⟨⟨k + 1, by go_num, by omega, by omega, trivial⟩, by simp [intOf]; omega⟩
  ·obtain rfl : k = J := by omega
   have b2 : ¬ (k : Int) < (s.size : Int) := by have := HJS.out; omega
   go_wp2_with fail
   refine (C2.out _).mono ?_
   rintro e w' ⟨rfl, hb⟩
   go_wp2
   go_ret2
   exact ⟨rfl, hb⟩
theorem Af6 (s : ByteArray) (J : Nat) (w : World) (hs : s.size ≤ 281474976710656) (h : 3 ≤ s.size) (g0 : 0 < s.size) (h0 : (s[0]'g0).toNat = 48) (g1 : 1 < s.size) (h1 : (s[1]'g1).toNat = 88)
  (hJ : ∀ i, 2 ≤ i → i < J → dgt (btn s i) < 16) (hJ2 : 2 ≤ J) (hJs : J < s.size) (hJn : ¬ dgt (btn s J) < 16) :
  Cq 77 #[.string s] (.tuple #[.float .f64 0, .bool false]) w := by
 have a0 : (s.size : Int) ≤ 281474976710656 := by omega
 have a1 : ¬ (s.size : Int) < 3 := by omega
 have a2 : (1 : Int) < (s.size : Int) := by omega
 have a3 : (2 : Int) ≤ (s.size : Int) := by omega
 have e0 : ((s[0]'g0).toNat : Int) = 48 := by rw [h0]; rfl
 have e1 : ((s[1]'g1).toNat : Int) = 88 := by rw [h1]; rfl
 have HJ := Lh hJ
 have HJ2 := Lh hJ2
 have HJS := Lh hJs
 have HJN := Lh hJn
 clear hs h h0 h1 hJ hJ2 hJs hJn
 go_enter Tryz.func77, Tryz.ntmps77
 go_wp2
 clear e0 e1 a1
 go_loopw [4] (fun i wr => ∃ k : Nat, i = .int .i64 k ∧ 2 ≤ k ∧ k ≤ J ∧ w = wr) (fun i _ => J - (intOf i).toNat)
 case atStart => exact ⟨2, rfl, Nat.le_refl _, HJ2.out, rfl⟩
 case round =>
  obtain ⟨k, rfl, hk2, hk, rfl⟩ := hrel
  by_cases hlt : k < J
  ·have hks : k < s.size := by have := HJS.out; omega
   have C1 := Lh (fun W => show Cp 108 #[.int .u8 ((s[k]'hks).toNat : Nat)] W fun e w' => e = .returned (.int .i64 (dgt (btn s k) : Nat)) ∧ W = w' from by
    rw [D9 s k hks, ← H7 (r := 16) (by omega) (HJ.out k hk2 hlt)]; exact Cz _ W (Fw s k))
   have hd := HJ.out k hk2 hlt
   obtain ⟨d, hde⟩ : ∃ d, dgt (btn s k) = d := ⟨_, rfl⟩
   rw [hde] at C1 hd
   have b1 : ¬ (16 : Int) ≤ (d : Int) := by omega
   have b2 : (k : Int) < (s.size : Int) := by omega
   have b3 : (0 : Int) ≤ (k : Int) := by omega
   clear hde hd
   go_wp2_with fail
   refine Sm (C1.out _) ?_
   go_wp2
   exact ⟨⟨k + 1, by go_num, by omega, by omega, trivial⟩, by simp [intOf]; omega⟩
  ·obtain rfl : k = J := by omega
   have hks : k < s.size := HJS.out
   have C1 := Lh (fun W => show Cp 108 #[.int .u8 ((s[k]'hks).toNat : Nat)] W fun e w' => e = .returned (.int .i64 (dgz (btn s k) : Nat)) ∧ W = w' from by
    rw [D9 s k hks]; exact Cz _ W (Fw s k))
   have hd : ¬ dgz (btn s k) < 16 := fun h => HJN.out ((Ahu (by omega)).1 h)
   obtain ⟨d, hde⟩ : ∃ d, dgz (btn s k) = d := ⟨_, rfl⟩
   rw [hde] at C1 hd
   have b1 : (16 : Int) ≤ (d : Int) := by omega
   have b2 : (k : Int) < (s.size : Int) := by omega
   have b3 : (0 : Int) ≤ (k : Int) := by omega
   clear hde hd
   go_wp2_with fail
   refine Sm (C1.out _) ?_
   go_wp2
   go_ret2
   exact ⟨rfl, rfl⟩
theorem Af2 (s : ByteArray) (J F : Nat) (w : World) (hs : s.size ≤ 281474976710656) (h : 3 ≤ s.size) (g0 : 0 < s.size) (h0 : (s[0]'g0).toNat = 48) (g1 : 1 < s.size) (h1 : (s[1]'g1).toNat = 88)
  (hJ : ∀ i, 2 ≤ i → i < J → dgt (btn s i) < 16) (hJ2 : 2 ≤ J) (hJs : J = s.size)
  (C2 : Hid (∀ W, Ct 109 #[.string (s.extract 2 s.size), .int .i64 16] (.float .f64 F) W)) :
  Ct 77 #[.string s] (.tuple #[.float .f64 F, .bool true]) w := by
 have a0 : (s.size : Int) ≤ 281474976710656 := by omega
 have a1 : ¬ (s.size : Int) < 3 := by omega
 have a2 : (1 : Int) < (s.size : Int) := by omega
 have a3 : (2 : Int) ≤ (s.size : Int) := by omega
 have e0 : ((s[0]'g0).toNat : Int) = 48 := by rw [h0]; rfl
 have e1 : ((s[1]'g1).toNat : Int) = 88 := by rw [h1]; rfl
 have HJ := Lh hJ
 have HJ2 := Lh hJ2
 have HJS := Lh hJs
 clear hs h h0 h1 hJ hJ2 hJs
 go_enter Tryz.func77, Tryz.ntmps77
 go_wp2
 clear e0 e1 a1
 go_loopw [4] (fun i wr => ∃ k : Nat, i = .int .i64 k ∧ 2 ≤ k ∧ k ≤ J ∧ w = wr) (fun i _ => J - (intOf i).toNat)
 case atStart => exact ⟨2, rfl, Nat.le_refl _, HJ2.out, rfl⟩
 case round =>
  obtain ⟨k, rfl, hk2, hk, rfl⟩ := hrel
  by_cases hlt : k < J
  ·have hks : k < s.size := by have := HJS.out; omega
   have C1 := Lh (fun W => show Cp 108 #[.int .u8 ((s[k]'hks).toNat : Nat)] W fun e w' => e = .returned (.int .i64 (dgt (btn s k) : Nat)) ∧ W = w' from by
    rw [D9 s k hks, ← H7 (r := 16) (by omega) (HJ.out k hk2 hlt)]; exact Cz _ W (Fw s k))
   have hd := HJ.out k hk2 hlt
   obtain ⟨d, hde⟩ : ∃ d, dgt (btn s k) = d := ⟨_, rfl⟩
   rw [hde] at C1 hd
   have b1 : ¬ (16 : Int) ≤ (d : Int) := by omega
   have b2 : (k : Int) < (s.size : Int) := by omega
   have b3 : (0 : Int) ≤ (k : Int) := by omega
   clear hde hd
   go_wp2_with fail
   refine Sm (C1.out _) ?_
   go_wp2
   exact ⟨⟨k + 1, by go_num, by omega, by omega, trivial⟩, by simp [intOf]; omega⟩
  ·obtain rfl : k = J := by omega
   have b2 : ¬ (k : Int) < (s.size : Int) := by have := HJS.out; omega
   go_wp2_with fail
   refine (C2.out _).mono ?_
   rintro e w' ⟨rfl, hb⟩
   go_wp2
   go_ret2
   exact ⟨rfl, hb⟩
theorem Hc (w : World) : Cq 46 #[] (.float .f64 Mn) w := by
 have h1 : (callFunc 69 #[.int .u64 9221120237041090560]).run Tryz.prog w = .ok (.value (.float .f64 9221120237041090560)) w := Ca 9221120237041090560 w
 go_enter Tryz.func46, Tryz.ntmps46
 go_wp2
 go_ret
 exact ⟨rfl, rfl⟩
end
section
theorem An5 {s : ByteArray} {k : Nat} (h : k < s.size) : (bl s)[k]? = some (btn s k) := by
 rw [De s k h, D9 s k h]
theorem Af3 (s : ByteArray) (h : 2 ≤ s.size) : ∃ J, 2 ≤ J ∧ J ≤ s.size ∧ (∀ i, 2 ≤ i → i < J → dgt (btn s i) < 16) ∧ (J < s.size → ¬ dgt (btn s J) < 16) := by
 have main : ∀ m, ∀ k, 2 ≤ k → k + m = s.size → (∀ i, 2 ≤ i → i < k → dgt (btn s i) < 16) → ∃ J, 2 ≤ J ∧ J ≤ s.size ∧ (∀ i, 2 ≤ i → i < J → dgt (btn s i) < 16) ∧ (J < s.size → ¬ dgt (btn s J) < 16) := by
  intro m
  induction m with
  | zero => exact fun k h1 h2 h3 => ⟨k, h1, by omega, h3, fun h => absurd h (by omega)⟩
  | succ m ih =>
   intro k h1 h2 h3
   by_cases hd : dgt (btn s k) < 16
   ·refine ih (k + 1) (by omega) (by omega) (fun i hi hi2 => ?_)
    rcases Nat.lt_or_ge i k with h | h
    ·exact h3 i hi h
    ·rw [show i = k by omega]; exact hd
   ·exact ⟨k, h1, by omega, h3, fun _ => hd⟩
 exact main (s.size - 2) 2 (Nat.le_refl _) (by omega) (fun i h1 h2 => absurd h2 (by omega))
theorem Ajj {s : ByteArray} : ((bl s).drop 2).all Og = true ↔ ∀ i, 2 ≤ i → i < s.size → dgt (btn s i) < 16 := by
 rw [List.all_eq_true]
 constructor
 ·intro h i h1 h2
  have hg := An5 h2
  have : btn s i ∈ (bl s).drop 2 := List.mem_iff_getElem?.2 ⟨i - 2, by rw [List.getElem?_drop, show 2 + (i - 2) = i by omega, hg]⟩
  have := h _ this
  unfold Og at this
  exact of_decide_eq_true this
 ·intro h c hc
  obtain ⟨j, hj⟩ := List.mem_iff_getElem?.1 hc
  rw [List.getElem?_drop] at hj
  obtain ⟨hk, hb⟩ := Hi hj
  have := h (2 + j) (by omega) hk
  unfold Og
  refine decide_eq_true ?_
  rw [← hb, D9 s _ hk]
  exact this
theorem Aiu (s : ByteArray) (w : World) (hs : s.size ≤ 140737488355328) :
  Ct 77 #[.string s] (.tuple #[.float .f64 (if hxB (bl s) = true then F2 16 ((bl s).drop 2) else 0), .bool (hxB (bl s))]) w := by
 have hbl := Bx s
 have no : hxB (bl s) = false → Cp 77 #[.string s] w (fun e w' => e = .returned (.tuple #[.float .f64 0, .bool false]) ∧ w = w') → Ct 77 #[.string s] (.tuple #[.float .f64 (if hxB (bl s) = true then F2 16 ((bl s).drop 2) else 0), .bool (hxB (bl s))]) w := by
  intro h1 h2
  rw [h1]
  refine h2.mono ?_
  rintro e w' ⟨rfl, rfl⟩
  exact ⟨rfl, Below.refl _ _⟩
 by_cases h3 : s.size < 3
 ·refine no ?_ (Aau s w h3)
  unfold hxB
  have : (bl s).drop 2 = [] := List.drop_eq_nil_iff.2 (by rw [hbl]; omega)
  rw [this]
  simp
 ·have g0 : 0 < s.size := by omega
  have g1 : 1 < s.size := by omega
  have b0 := De s 0 g0
  have b1 := De s 1 g1
  have hh : (bl s).head? = some (s[0]'g0).toNat := by rw [List.head?_eq_getElem?]; exact b0
  have ht : (bl s).tail.head? = some (s[1]'g1).toNat := by rw [List.head?_eq_getElem?, List.getElem?_tail]; exact b1
  obtain ⟨B0, hB0⟩ : ∃ B : Nat, (s[0]'g0).toNat = B := ⟨_, rfl⟩
  obtain ⟨B1, hB1⟩ : ∃ B : Nat, (s[1]'g1).toNat = B := ⟨_, rfl⟩
  rw [hB0] at hh
  rw [hB1] at ht
  by_cases n0 : B0 = 48
  ·subst n0
   by_cases hx : B1 = 120 ∨ B1 = 88
   ·have hA : hxA (bl s) = true := by
     unfold hxA
     rw [hh, ht]
     rcases hx with rfl | rfl <;> rfl
    have hE : ((bl s).drop 2).isEmpty = false := by
     rw [Bool.eq_false_iff]
     intro h
     have := congrArg List.length (List.isEmpty_iff.1 h)
     rw [List.length_drop, hbl] at this
     simp at this
     omega
    have hB : hxB (bl s) = ((bl s).drop 2).all Og := by
     unfold hxB
     rw [hA, hE]
     rfl
    obtain ⟨J, j1, j2, j3, j4⟩ := Af3 s (by omega)
    rcases Nat.lt_or_ge J s.size with hJ | hJ
    ·refine no ?_ ?_
     ·rw [hB, Bool.eq_false_iff]
      intro h
      exact j4 hJ (Ajj.1 h J j1 hJ)
     ·rcases hx with rfl | rfl
      ·exact Abj s J w (by omega) (by omega) g0 hB0 g1 hB1 j3 j1 hJ (j4 hJ)
      ·exact Af6 s J w (by omega) (by omega) g0 hB0 g1 hB1 j3 j1 hJ (j4 hJ)
    ·have hJs : J = s.size := by omega
     have hall : hxB (bl s) = true := by rw [hB]; exact Ajj.2 (fun i h1 h2 => j3 i h1 (by omega))
     have C2 : Hid (∀ W, Ct 109 #[.string (s.extract 2 s.size), .int .i64 16] (.float .f64 (F2 16 ((bl s).drop 2))) W) := Lh (fun W => by
      rw [Ez]
      refine Ta _ 16 W (by omega) (by omega) (fun c hc => ?_) (fun c hc => Ks s c (List.mem_of_mem_drop hc)) (by rw [List.length_drop]; omega)
      have := List.all_eq_true.1 (by rw [← hB]; exact hall) c hc
      exact of_decide_eq_true this)
     rw [hall, if_pos rfl]
     rcases hx with rfl | rfl
     ·exact Aal s J _ w (by omega) (by omega) g0 hB0 g1 hB1 j3 j1 hJs C2
     ·exact Af2 s J _ w (by omega) (by omega) g0 hB0 g1 hB1 j3 j1 hJs C2
   ·refine no ?_ (Ao7 s B1 w (by omega) g0 hB0 g1 hB1 (fun h => hx (Or.inl h)) (fun h => hx (Or.inr h)))
    unfold hxB hxA
    rw [ht, beq_eq_false_iff_ne.2 (fun e => hx (Or.inl (Option.some.inj e))), beq_eq_false_iff_ne.2 (fun e => hx (Or.inr (Option.some.inj e)))]
    simp
  ·refine no ?_ (Apj s B0 w (by omega) g0 hB0 n0)
   unfold hxB hxA
   rw [hh, beq_eq_false_iff_ne.2 (fun e => n0 (Option.some.inj e))]
   rfl
end
end Go.Proofs.YtmakhfekiieneaaGreatDoor
