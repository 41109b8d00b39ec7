/-
  Merged texts (BC, BP).
-/
import Derived.Test.YtmakhfekiieneaaGreatDoorQaa
import Ieee.Arith
import GoSem.Core.Float
import Derived.Laws.FloatArith
import Derived.Laws.Externs
open Go.RowKit
set_option maxRecDepth 100000
set_option maxHeartbeats 40000000
namespace Go.Proofs.YtmakhfekiieneaaGreatDoor
section
theorem Ag9 (x y s : Nat) (hs : s ≤ 32) (hx : x < 4294967296) : bits BinOp.or IntKind.u32 ((x : Int) / 2 ^ s) ((y : Int) * 2 ^ (32 - s) % 4294967296) = ((y * 2 ^ (32 - s) % 4294967296 + x / 2 ^ s : Nat) : Int) := by
 have h := Ala y x (32 - s) (by omega) hx
 rw [show 32 - (32 - s) = s by omega] at h
 have h1 : x / 2 ^ s < 4294967296 := Nat.lt_of_le_of_lt (Nat.div_le_self _ _) hx
 have h2 : y * 2 ^ (32 - s) % 4294967296 < 4294967296 := Nat.mod_lt _ (by omega)
 rw [← h, Nat.or_comm, ← Ss _ _ h1 h2, Int.natCast_ediv, Int.natCast_emod, Int.natCast_mul, Int.natCast_pow, Int.natCast_pow]
 rfl
theorem All (g o n c s : Nat) (R : List Nat) (A : Option Addr) (m d : Nat) (b : List Nat) (B : Nat) (w : World) (hR : Row w g R) (hRw : Ws R) (ho : o + n ≤ R.length) (hbl : b.length = m) (hm : m ≤ 35184372087808) (hn : n ≤ 35184372087808)
  (hB : RW w B A b) (hgB : B ≤ g) (hs : s < 32) :
  Cp 221 #[.slice (some ⟨g, o, none⟩) n c, .slice A m d, .int .i64 s] w (fun e w' => e = .returned (.tuple #[]) ∧ ∃ S, ShrP R o b s n S ∧ Row w' g S ∧ Below g w w') := by
 have hn1 : (n : Int) ≤ 35184372087808 := by omega
 have hs1 : (s : Int) < 32 := by omega
 have hs0 : (0 : Int) ≤ (s : Int) := by omega
 have hB2 := Lh hB
 have HR := Lh hR
 have HSTART := Lh (ShrP.start o b s hRw)
 clear hR
 go_enter Tryz.func221, Tryz.ntmps221
 go_wp2
 go_loopw [9] (fun i wr => ∃ (k : Nat) (S : List Nat), i = .int .i64 k ∧ k ≤ n ∧ Hid (Row wr g S) ∧ Hid (ShrP R o b s k S) ∧ Below g w wr) (fun i _ => n - (intOf i).toNat)
 case atStart => exact ⟨0, R, rfl, Nat.zero_le _, HR, HSTART, Below.refl _ _⟩
 case round =>
  obtain ⟨k, S, rfl, hk, HRS, HS, hbw⟩ := hrel
  by_cases hlt : k < n
  ·have hS := HRS.out.cell (o + k) (by have := HS.out.len; omega)
   have hfz := HRS.out.frozen (o + k)
   have HNX := Lh (HS.out.next hB2.out.1 (by omega) (by have := HS.out.len; omega))
   have HROW := Lh (HRS.out.set (o + k) (Hg b s k))
   have C1 := Lh (fun W (hW : Below g w W) => Dz A m d k b B W hbl (by omega) (hB2.out.below (hW.mono hgB)))
   have C2 := Lh (fun W (hW : Below g w W) => Dz A m d (k + 1) b B W hbl (by omega) (hB2.out.below (hW.mono hgB)))
   have hbd := Ae hbw 1
   have HBS := Lh (show Below g w (wr.setCell ⟨g, o + k, none⟩ (.int .u32 (Hg b s k : Nat))) from hbw.setCell (Nat.le_refl _) _)
   obtain ⟨x, hx⟩ : ∃ x, b.getD k 0 = x := ⟨_, rfl⟩
   rw [hx] at C1
   obtain ⟨y, hy⟩ : ∃ y, b.getD (k + 1) 0 = y := ⟨_, rfl⟩
   rw [hy] at C2
   rw [show ((k + 1 : Nat) : Int) = (k : Int) + 1 by omega] at C2
   have HW := Lh (show ((Hg b s k : Nat) : Int) = bits BinOp.or IntKind.u32 ((x : Int) / 2 ^ s) ((y : Int) * 2 ^ (32 - s) % 4294967296) by
    rw [Ag9 x y s (by omega) (by rw [← hx]; exact hB2.out.1.getD k)]
    unfold Hg; rw [hx, hy])
   have hkk : (k : Int) < (n : Int) := by omega
   have e1 : IntKind.i64.wrap ((k : Int) + 1) = (k : Int) + 1 := IntWalk.i64_in _ (by omega)
   have e2 : IntKind.i64.wrap (32 - (s : Int)) = 32 - (s : Int) := IntWalk.i64_in _ (by omega)
   have e3 : (0 : Int) ≤ 32 - (s : Int) := by omega
   clear hx hy hB ho hbl hk
   go_wp2
   go_region_with (first
      | (go_at_call 178; (with_reducible refine (C1.out _ ?_).mono ?_); exact hbd; rintro e w' ⟨rfl, rfl⟩)
      | (go_at_call 178; (with_reducible refine (C2.out _ ?_).mono ?_); exact hbd; rintro e w' ⟨rfl, rfl⟩))
   all_goals
    go_wp2_with fail
    rw [← HW.out]
    exact ⟨⟨k + 1, _, by go_num, hlt, HROW, HNX, Ae HBS.out 1⟩, by simp [intOf]; omega⟩
  ·have hkn : k = n := by omega
   subst hkn
   clear hlt hbl
   go_wp2
   go_end0
   exact ⟨rfl, S, HS.out, HRS.out, hbw⟩
theorem Ke (m : Nat) : 4294967296 ^ m = 2 ^ (32 * m) := by rw [Nat.pow_mul]
theorem Ahv {B P v t u L : Nat} (e : v = t + B * u) (h1 : t < B) (h2 : P ≤ u) (h3 : u < L) : B * P ≤ v ∧ v < B * L := by
 have a := Nat.mul_le_mul_left B h2
 have b : B * (u + 1) ≤ B * L := Nat.mul_le_mul_left B h3
 rw [Nat.mul_add, Nat.mul_one] at b
 omega
theorem Bp {l : List Nat} (h : Ws l) (h0 : nrm l ≠ []) : 2 ^ (btl l - 1) ≤ val l ∧ val l < 2 ^ btl l ∧ 0 < btl l := by
 have hp : 0 < (nrm l).length := List.length_pos_iff.2 h0
 have hle := Ba l
 have hge := N7 (l := l) h0
 obtain ⟨m, hm⟩ : ∃ m, (nrm l).length = m + 1 := ⟨(nrm l).length - 1, by omega⟩
 have e : val l = val (l.take m) + 4294967296 ^ m * l.getD m 0 := by
  rw [← Av, ← hm, ← Ij, Aq]
 have h1 : val (l.take m) < 4294967296 ^ m := by
  have := Ed (h.take m)
  rwa [List.length_take, Nat.min_eq_left (by omega)] at this
 have eb : btl l = 32 * m + Lib.bitLen (l.getD m 0) := by unfold btl; rw [if_neg h0, hm, Nat.add_sub_cancel]
 have hu := h.getD m
 rw [hm, Nat.add_sub_cancel] at hge
 obtain ⟨u, hu0⟩ : ∃ u, l.getD m 0 = u := ⟨_, rfl⟩
 rw [hu0] at e eb hu
 have hz : u ≠ 0 := by intro z; rw [z, Nat.mul_zero] at e; omega
 obtain ⟨b1, b2, b3⟩ := Lib.bitLenAux_bounds 64 u (by omega) hz
 change btl l = 32 * m + Lib.bitLenAux 64 u at eb
 rw [eb]
 generalize Lib.bitLenAux 64 u = L at *
 obtain ⟨c1, c2⟩ := Ahv e h1 b2 b3
 rw [Ke, ← Nat.pow_add] at c1 c2
 refine ⟨?_, c2, by omega⟩
 rw [show 32 * m + L - 1 = 32 * m + (L - 1) by omega]
 exact c1
theorem Ak6 {l : List Nat} (h : Ws l) : btl l ≤ 32 * (nrm l).length := by
 unfold btl
 split
 ·omega
 ·next h0 =>
  have hp : 0 < (nrm l).length := List.length_pos_iff.2 h0
  have := Gs _ (h.getD ((nrm l).length - 1))
  omega
theorem Ao2 {v k : Nat} (hk : 32768 ≤ k) (h : 2 ^ k ≤ v) : Am v = true := by
 unfold Am
 refine decide_eq_true ?_
 rcases Nat.lt_or_ge 1024 (wds v).length with h1 | h1
 ·exact h1
 ·have h2 := Fx v
  rw [Ke] at h2
  have h3 : 2 ^ (32 * (wds v).length) ≤ 2 ^ k := Nat.pow_le_pow_right (by omega) (by omega)
  exact absurd (Nat.lt_of_lt_of_le h2 (Nat.le_trans h3 h)) (Nat.lt_irrefl _)
theorem Ah0 {l : List Nat} {n : Nat} (h : Ws l) (h0 : nrm l ≠ []) (hn : 32768 < btl l + n) : Am (val l * 2 ^ n) = true := by
 obtain ⟨h1, _, h3⟩ := Bp h h0
 refine Ao2 (k := btl l - 1 + n) (by omega) ?_
 rw [Nat.pow_add]
 exact Nat.mul_le_mul_right _ h1
theorem ShlP.all {o n s : Nat} {b S : List Nat} (h : ShlP (List.replicate (o + n) 0) o b s n S) (hn : b.length < n) : val S = val b * 2 ^ (32 * o + s) := by
 have hl := h.len
 rw [List.length_replicate] at hl
 have e1 : val S = val (S.take (o + n)) := by rw [List.take_of_length_le (by omega)]
 have e2 : S.take o = (List.replicate (o + n) 0).take o := Cn o (by omega) (by rw [List.length_replicate]; omega) (fun j hj => h.far j (Or.inl hj))
 rw [e1, Gg S o n (by omega), h.whole hn, e2, List.take_replicate, Ha, Ke, Nat.zero_add, Nat.pow_add]
 grind
def Yv (v : Nat) (n : Int) (w : World) (e : Ending) (w' : World) : Prop := if Am v = true then Do 3 w e w' else if n < 0 then Do 1 w e w' else NatPost (v * 2 ^ n.toNat) w e w'
theorem Agn (A : Option Addr) (n c : Nat) (p : Int) (l : List Nat) (w : World) (hn : l.length = n) (hc : n ≤ c) (hm : n ≤ 35184372088832) (h : RW w w.heap.size A l) (hl : Am (val l) = true) :
  Cp 201 #[.slice A n c, .int .i64 p] w (Do 3 w) := by
 have c1 := As A n c l w.heap.size w hn hc hm h
 have hle := Ba l
 obtain ⟨N, hN⟩ : ∃ N, (nrm l).length = N := ⟨_, rfl⟩
 rw [hN] at c1 hle
 have c2 := D0 A N N (nrm l) w hN (Nat.le_refl _) (by omega) h.nrm
 rw [Aq, hl] at c2
 have HP := Lh (show Below w.heap.size w (lone w (.slice A N N)) from (Below.refl _ _).alloc (Nat.le_refl _) _)
 clear hn hc hm h hl hle hN
 go_enter Tryz.func201, Tryz.ntmps201
 go_wp2_with fail
 refine c1.mono ?_
 rintro e w1 ⟨rfl, rfl⟩
 go_wp2_with fail
 refine c2.mono ?_
 rintro e w1 ⟨rfl, rfl⟩
 go_wp2
 go_ret2
 exact ⟨rfl, HP.out⟩
theorem Akw (A : Option Addr) (n c : Nat) (p : Int) (l : List Nat) (w : World) (hn : l.length = n) (hc : n ≤ c) (hm : n ≤ 35184372088832) (h : RW w w.heap.size A l) (hl : Am (val l) = false) (hp : p < 0) :
  Cp 201 #[.slice A n c, .int .i64 p] w (Do 1 w) := by
 have c1 := As A n c l w.heap.size w hn hc hm h
 have hle := Ba l
 obtain ⟨N, hN⟩ : ∃ N, (nrm l).length = N := ⟨_, rfl⟩
 rw [hN] at c1 hle
 have c2 := D0 A N N (nrm l) w hN (Nat.le_refl _) (by omega) h.nrm
 rw [Aq, hl] at c2
 have HP := Lh (show Below w.heap.size w (lone w (.slice A N N)) from (Below.refl _ _).alloc (Nat.le_refl _) _)
 clear hn hc hm h hl hle hN
 go_enter Tryz.func201, Tryz.ntmps201
 go_wp2_with fail
 refine c1.mono ?_
 rintro e w1 ⟨rfl, rfl⟩
 go_wp2_with fail
 refine c2.mono ?_
 rintro e w1 ⟨rfl, rfl⟩
 go_wp2
 go_ret2
 exact ⟨rfl, HP.out⟩
theorem Af5 (A : Option Addr) (n c : Nat) (p : Int) (l : List Nat) (w : World) (hn : l.length = n) (hc : n ≤ c) (hm : n ≤ 35184372088832) (h : RW w w.heap.size A l) (hp : 0 ≤ p) (h0 : nrm l = []) :
  Cp 201 #[.slice A n c, .int .i64 p] w (NatPost 0 w) := by
 have c1 := As A n c l w.heap.size w hn hc hm h
 rw [h0] at c1
 have c2 := D0 A 0 0 [] w rfl (Nat.le_refl _) (by omega) (RW.nil _ _ _)
 rw [show Am (val []) = false from Es (by simp [val])] at c2
 have HP := Lh (show Below w.heap.size w (lone w (.slice A 0 0)) from (Below.refl _ _).alloc (Nat.le_refl _) _)
 have hp1 : ¬ p < 0 := by omega
 clear hn hc hm h h0
 go_enter Tryz.func201, Tryz.ntmps201
 go_wp2_with fail
 refine c1.mono ?_
 rintro e w1 ⟨rfl, rfl⟩
 go_wp2_with fail
 refine c2.mono ?_
 rintro e w1 ⟨rfl, rfl⟩
 go_wp2
 go_ret2
 exact NatPost.ok (Es (by omega)) rfl (Nat.le_refl _) (RW.nil _ _ _) HP.out
theorem Ai1 (A : Option Addr) (n c : Nat) (p : Int) (l : List Nat) (w : World) (hn : l.length = n) (hc : n ≤ c) (hm : n ≤ 35184372088832) (h : RW w w.heap.size A l) (hl : Am (val l) = false) (hp : 0 ≤ p) (h0 : nrm l ≠ []) (hf : 32768 < (btl (nrm l) : Int) + p) :
  Cp 201 #[.slice A n c, .int .i64 p] w (fun e w' => e = .returned (.tuple #[.slice none 0 0, .int .i64 3]) ∧ Below w.heap.size w w') := by
 have c1 := As A n c l w.heap.size w hn hc hm h
 have n1 := Ej h.1 hl
 have hpos : 0 < (nrm l).length := List.length_pos_iff.2 h0
 obtain ⟨N, hN⟩ : ∃ N, (nrm l).length = N := ⟨_, rfl⟩
 rw [hN] at c1 n1 hpos
 have c2 := D0 A N N (nrm l) w hN (Nat.le_refl _) (by omega) h.nrm
 rw [Aq, hl] at c2
 have hp2 : Below w.heap.size w (lone w (.slice A N N)) := (Below.refl _ _).alloc (Nat.le_refl _) _
 have c3 := Gf A N N (nrm l) w.heap.size _ hN (Nat.le_refl _) (by omega) (h.nrm.below hp2)
 have hb := Ak6 h.1.nrm
 rw [Fb, hN] at hb
 obtain ⟨q, hq⟩ : ∃ q, btl (nrm l) = q := ⟨_, rfl⟩
 rw [hq] at c3 hf hb
 have HP := Lh hp2
 have hp1 : ¬ p < 0 := by omega
 have hN0 : (0 : Int) < (N : Int) := by omega
 have hqq : (q : Int) ≤ 32768 := by omega
 have e1 : IntKind.i64.wrap (32768 - (q : Int)) = 32768 - (q : Int) := IntWalk.i64_in _ (by omega)
 have e2 : 32768 - (q : Int) < p := by omega
 clear hn hc hm h hl hN h0 hp2 hq hpos n1 hb hf
 go_enter Tryz.func201, Tryz.ntmps201
 go_wp2_with fail
 refine c1.mono ?_
 rintro e w1 ⟨rfl, rfl⟩
 go_wp2_with fail
 refine c2.mono ?_
 rintro e w1 ⟨rfl, rfl⟩
 go_wp2_with fail
 refine c3.mono ?_
 rintro e w1 ⟨rfl, rfl⟩
 go_wp2
 go_ret2
 exact ⟨rfl, HP.out⟩
theorem Ami (A : Option Addr) (n c : Nat) (p o s : Nat) (l : List Nat) (w : World) (hn : l.length = n) (hc : n ≤ c) (hm : n ≤ 35184372088832) (h : RW w w.heap.size A l) (hl : Am (val l) = false) (h0 : nrm l ≠ []) (hf : btl (nrm l) + p ≤ 32768)
  (hpo : p = 32 * o + s) (hs : s < 32) :
  Cp 201 #[.slice A n c, .int .i64 p] w (NatPost (val l * 2 ^ p) w) := by
 have c1 := As A n c l w.heap.size w hn hc hm h
 have n1 := Ej h.1 hl
 have hpos : 0 < (nrm l).length := List.length_pos_iff.2 h0
 obtain ⟨N, hN⟩ : ∃ N, (nrm l).length = N := ⟨_, rfl⟩
 rw [hN] at c1 n1 hpos
 have c2 := D0 A N N (nrm l) w hN (Nat.le_refl _) (by omega) h.nrm
 rw [Aq, hl] at c2
 have hp2 : Below w.heap.size w (lone w (.slice A N N)) := (Below.refl _ _).alloc (Nat.le_refl _) _
 have c3 := Gf A N N (nrm l) w.heap.size _ hN (Nat.le_refl _) (by omega) (h.nrm.below hp2)
 rw [← Aq l]
 have hA := h.nrm.below hp2
 obtain ⟨W, hW⟩ : ∃ W, lone w (.slice A N N) = W := ⟨_, rfl⟩
 rw [hW] at c2 c3 hp2 hA
 have hmk := run_make_row' (P := Tryz.prog) 121 129 (.int .u32 0) 4 Tryz.underlying121 Ef rfl .i64 .i64 (o + N + 1) (by omega) (by omega) W
 rw [show ((o + N + 1 : Nat) : Int) = (o : Int) + (N : Int) + 1 by omega] at hmk
 have hrow := Row.made W (o + N + 1)
 have hgW := hp2.size
 have hbl0 : Below w.heap.size w (W.alloc (.cells (madeCells #[.int .u32 0] (o + N + 1)) 129)) := hp2.alloc hp2.size _
 have hbl1 : Below w.heap.size W (W.alloc (.cells (madeCells #[.int .u32 0] (o + N + 1)) 129)) := (Below.refl _ _).alloc hp2.size _
 have C4 := Lh (U4 W.heap.size o (N + 1) (N + 1) s (List.replicate (o + (N + 1)) 0) A N N (nrm l) w.heap.size _ hrow (Ws.zeros _) (by rw [List.length_replicate]; exact Nat.le_refl _) hN (by omega) (by omega) (hA.below hbl1) hgW hs)
 have C5 := Lh (fun (S : List Nat) (W2 : World) (hS : ShlP (List.replicate (o + (N + 1)) 0) o (nrm l) s (N + 1) S) (hr : Row W2 W.heap.size S) =>
  show Cp 175 #[.slice (some ⟨W.heap.size, 0, none⟩) (o + N + 1) (o + N + 1)] W2 (NatPost (val (nrm l) * 2 ^ (32 * o + s)) W2) from by
   have hlen : S.length = o + N + 1 := by rw [hS.len, List.length_replicate]; omega
   have := Ge (some ⟨W.heap.size, 0, none⟩) (o + N + 1) (o + N + 1) S W2 hlen (Nat.le_refl _) (by omega) ((hr.rw0 hS.ws).more hr.lt)
   rw [hS.all (by omega)] at this
   exact this)
 have HW := Lh hW
 obtain ⟨q, hq⟩ : ∃ q, btl (nrm l) = q := ⟨_, rfl⟩
 rw [hq] at c3 hf
 obtain ⟨v, hv⟩ : ∃ v, val (nrm l) * 2 ^ p = v := ⟨_, rfl⟩
 rw [hv]
 rw [← hpo, hv] at C5
 have HBL := Lh hbl0
 have hN0 : (0 : Int) < (N : Int) := by omega
 have hN1 : (N : Int) ≤ 1024 := by omega
 have ho1 : (o : Int) ≤ 1024 := by omega
 have e1 : IntKind.i64.wrap (32768 - (q : Int)) = 32768 - (q : Int) := IntWalk.i64_in _ (by omega)
 have e2 : (p : Int) ≤ 32768 - (q : Int) := by omega
 have e3 : (p : Int) / 32 = (o : Int) := by omega
 have e4 : (p : Int) % 32 = (s : Int) := by omega
 clear hn hc hm h hl hN h0 hp2 hq hpos n1 hf hpo hrow hbl0 hbl1 hs hW hA hv
 go_enter Tryz.func201, Tryz.ntmps201
 go_wp2_with fail
 refine c1.mono ?_
 rintro e w1 ⟨rfl, rfl⟩
 go_wp2_with fail
 rw [show w.alloc (.cells #[.slice A N N] 121) = W from HW.out]
 refine c2.mono ?_
 rintro e w1 ⟨rfl, rfl⟩
 go_wp2_with fail
 refine c3.mono ?_
 rintro e w1 ⟨rfl, rfl⟩
 clear c1 c2 c3
 go_wp2_with fail
 rw [show o + N + 1 - o = N + 1 by omega]
 refine C4.out.mono ?_
 rintro e w4 ⟨rfl, S, hS, hr, hb⟩
 have D5 := Lh (C5.out S w4 hS hr)
 have HB4 := Lh (HBL.out.trans (hb.mono hgW))
 clear hS hr hb C4 C5
 go_wp2_with fail
 refine D5.out.mono ?_
 rintro e w5 hx
 obtain ⟨A5, n5, c5, k5, rfl, h3, h4⟩ := NatPost.from_ HB4.out hx
 have H3 := Lh h3
 have H4 := Lh h4
 clear h3 h4 hx D5
 go_wp2
 go_ret2
 exact ⟨A5, n5, c5, k5, rfl, H3.out, H4.out⟩
theorem Vq (l : List Nat) (o : Nat) (ho : o ≤ l.length) : val l = val (l.take o) + 4294967296 ^ o * val (l.drop o) := by
 have h := Gg l o (l.length - o) ho
 rw [show o + (l.length - o) = l.length by omega, List.take_length, List.take_of_length_le (l := l.drop o) (by rw [List.length_drop]; omega)] at h
 exact h
theorem Adj {l : List Nat} (h : Ws l) (o : Nat) (ho : o ≤ l.length) : val (l.take o) < 4294967296 ^ o := by
 have := Ed (h.take o)
 rwa [List.length_take, Nat.min_eq_left ho] at this
theorem J1 {l : List Nat} (h : Ws l) (o s : Nat) (ho : o ≤ l.length) : val l / 2 ^ (32 * o + s) = val (l.drop o) / 2 ^ s := by
 have h1 := Adj h o ho
 rw [Nat.pow_add, ← Ke, ← Nat.div_div_eq_div_mul, Vq l o ho, Nat.add_mul_div_left _ _ (Nat.pow_pos (by omega)), Nat.div_eq_of_lt h1, Nat.zero_add]
theorem Aer {B T D P : Nat} (hT : T < B) (hP : 0 < P) : (T + B * D) % (B * P) = T + B * (D % P) := by
 have e : T + B * D = (T + B * (D % P)) + B * P * (D / P) := by
  have := Nat.div_add_mod D P
  have e2 : B * (P * (D / P) + D % P) = B * D := by rw [this]
  grind
 rw [e, Nat.add_mul_mod_self_left]
 refine Nat.mod_eq_of_lt ?_
 have h1 : B * (D % P + 1) ≤ B * P := Nat.mul_le_mul_left _ (Nat.mod_lt _ hP)
 rw [Nat.mul_add, Nat.mul_one] at h1
 omega
theorem Agy {l : List Nat} {s : Nat} (hs : s ≤ 32) : val l % 2 ^ s = l.getD 0 0 % 2 ^ s := by
 cases l with
 | nil => simp [val]
 | cons x r =>
  simp only [val, List.getD_cons_zero]
  rw [← Ec hs, Nat.mul_assoc, Nat.add_mul_mod_self_left]
theorem Wx {l : List Nat} (h : Ws l) (o s : Nat) (ho : o ≤ l.length) (hs : s ≤ 32) : val l % 2 ^ (32 * o + s) = val (l.take o) + 4294967296 ^ o * (l.getD o 0 % 2 ^ s) := by
 rw [Nat.pow_add, ← Ke]
 conv => lhs; rw [Vq l o ho]
 rw [Aer (Adj h o ho) (Nat.two_pow_pos s), Agy hs, Dl, Nat.add_zero]
theorem Abw {l : List Nat} {k : Nat} (h : ∀ j, j < k → l.getD j 0 = 0) : val (l.take k) = 0 := Uf fun j => by
 rcases Nat.lt_or_ge j k with hj | hj
 ·rw [Lf hj]; exact h j hj
 ·rw [List.getD_eq_getElem?_getD, List.getElem?_take, if_neg (by omega)]; rfl
theorem Z4 {l : List Nat} (h : Ws l) (o s k : Nat) (ho : o ≤ l.length) (hs : s ≤ 32) (hk : k < o) (hx : l.getD k 0 ≠ 0) : decide (val l % 2 ^ (32 * o + s) ≠ 0) = true := by
 refine decide_eq_true ?_
 rw [Wx h o s ho hs]
 have e : val (l.take o) ≠ 0 := by
  intro z
  have h1 := Cb z
  have h2 := Gg l k (o - k) (by omega)
  rw [show k + (o - k) = o by omega, z] at h2
  have h3 := Bd l k 0 (by omega)
  have h4 : val ((l.drop k).take (o - k)) = 0 := by
   have hp : 0 < 4294967296 ^ k := Nat.pow_pos (by omega)
   rcases Nat.eq_zero_or_pos (val ((l.drop k).take (o - k))) with h5 | h5
   ·exact h5
   ·have := Nat.mul_pos hp h5; omega
  obtain ⟨m, hm⟩ : ∃ m, o - k = m + 1 := ⟨o - k - 1, by omega⟩
  rw [hm] at h4
  have h6 := List.getD_eq_getElem?_getD (l := (l.drop k).take (m + 1)) (i := 0) (a := 0)
  have h7 : ((l.drop k).take (m + 1)).getD 0 0 = l.getD k 0 := by rw [Lf (by omega), Dl, Nat.add_zero]
  cases hc : (l.drop k).take (m + 1) with
  | nil => rw [hc] at h7; simp at h7; exact hx h7.symm
  | cons x r =>
   rw [hc] at h4 h7
   simp only [val] at h4
   simp only [List.getD_cons_zero] at h7
   omega
 omega
theorem Agj {l : List Nat} (h : Ws l) (o s : Nat) (ho : o ≤ l.length) (hs : s ≤ 32) (hz : ∀ j, j < o → l.getD j 0 = 0) : decide (val l % 2 ^ (32 * o + s) ≠ 0) = decide (l.getD o 0 * 2 ^ (32 - s) % 4294967296 ≠ 0) := by
 rw [Wx h o s ho hs, Abw hz, Nat.zero_add]
 have h1 := Fm (l.getD o 0) (32 - s) (by omega)
 rw [show 32 - (32 - s) = s by omega] at h1
 rw [h1]
 have hp : 0 < 4294967296 ^ o := Nat.pow_pos (by omega)
 have hq : 0 < 2 ^ (32 - s) := Nat.two_pow_pos _
 refine decide_eq_decide.2 ?_
 constructor
 ·intro a b
  rcases Nat.mul_eq_zero.1 b with b | b
  ·omega
  ·rw [b, Nat.mul_zero] at a; exact a rfl
 ·intro a b
  rcases Nat.mul_eq_zero.1 b with b | b
  ·omega
  ·rw [b, Nat.mul_zero] at a; exact a rfl
theorem RW.drop {w : World} {B b off : Nat} {l : List Nat} (h : RW w B (some ⟨b, off, none⟩) l) (o : Nat) (ho : o < l.length) : RW w B (some ⟨b, off + o, none⟩) (l.drop o) := ⟨h.1.drop o, fun _ => by
 obtain ⟨b2, off2, he, hb, hc⟩ := h.2 (by omega)
 cases he
 refine ⟨b, off + o, rfl, hb, fun k u hu => ?_⟩
 rw [List.getElem?_drop] at hu
 rw [show off + o + k = off + (o + k) by omega]
 exact hc _ u hu⟩
theorem Apy (x t : Nat) : (((x : Int) * 2 ^ t % 4294967296) != 0) = decide (x * 2 ^ t % 4294967296 ≠ 0) := by
 have e : ((x : Int) * 2 ^ t % 4294967296) = ((x * 2 ^ t % 4294967296 : Nat) : Int) := by rw [Int.natCast_emod, Int.natCast_mul, Int.natCast_pow]; rfl
 rw [e]
 by_cases h : x * 2 ^ t % 4294967296 = 0
 ·rw [h]; rfl
 ·rw [decide_eq_true h]
  simp only [bne_iff_ne, ne_eq]
  omega
theorem Aeo (b off n c p o s : Nat) (l : List Nat) (B : Nat) (w : World) (hn : l.length = n) (hc : n ≤ c) (hm : n ≤ 35184372087808) (h : RW w B (some ⟨b, off, none⟩) l) (hpo : p = 32 * o + s) (hs : s < 32) (ho : o < n) :
  Cq 222 #[.slice (some ⟨b, off, none⟩) n c, .int .i64 p] (.bool (decide (val l % 2 ^ p ≠ 0))) w := by
 have hcell : ∀ k u : Nat, l[k]? = some u → w.cell? ⟨b, off + k, none⟩ = some (.int .u32 (u : Int)) := by
  obtain ⟨b2, off2, he, _, hc2⟩ := h.2 (by omega)
  cases he
  exact hc2
 have hcl := hcell o _ (getD_some (by omega))
 have HE := Lh (fun k hk hx => Z4 (k := k) h.1 o s (by omega) (by omega) hk hx)
 have HL := Lh (fun hz => Agj h.1 o s (by omega) (by omega) hz)
 rw [← hpo] at HE HL
 have HCELL := Lh hcell
 have HN := Lh hn
 have ho1 : (o : Int) < (n : Int) := by omega
 have hn1 : (n : Int) ≤ 35184372087808 := by omega
 have hc1 : (n : Int) ≤ (c : Int) := by omega
 have hoc : o ≤ c := by omega
 have e3 : (p : Int) / 32 = (o : Int) := by omega
 have e4 : (p : Int) % 32 = (s : Int) := by omega
 have p0 : (0 : Int) ≤ (p : Int) := by omega
 have hs1 : (s : Int) < 32 := by omega
 have hs0 : (0 : Int) ≤ (s : Int) := by omega
 have e2 : IntKind.i64.wrap (32 - (s : Int)) = 32 - (s : Int) := IntWalk.i64_in _ (by omega)
 have e5 : (0 : Int) ≤ 32 - (s : Int) := by omega
 obtain ⟨x, hx⟩ : ∃ x, l.getD o 0 = x := ⟨_, rfl⟩
 rw [hx] at HL hcl
 clear hn hc hm h hpo hs hcell hx
 go_enter Tryz.func222, Tryz.ntmps222
 go_wp2
 go_loopw [12] (fun i wr => ∃ (k : Nat), i = .int .i64 k ∧ k ≤ o ∧ Hid (∀ j, j < k → l.getD j 0 = 0) ∧ w = wr) (fun i _ => o - (intOf i).toNat)
 case atStart => exact ⟨0, rfl, Nat.zero_le _, Lh (fun j hj => by omega), rfl⟩
 case round =>
  obtain ⟨k, rfl, hk, HZ, rfl⟩ := hrel
  by_cases hlt : k < o
  ·have hck := HCELL.out k _ (getD_some (by rw [HN.out]; omega))
   obtain ⟨y, hy⟩ : ∃ y, l.getD k 0 = y := ⟨_, rfl⟩
   rw [hy] at hck
   have hkk : (k : Int) < (o : Int) := by omega
   by_cases h0 : y = 0
   ·subst h0
    have HZ2 := Lh (show ∀ j, j < k + 1 → l.getD j 0 = 0 from fun j hj => by
     rcases Nat.lt_or_ge j k with h1 | h1
     ·exact HZ.out j h1
     ·rw [show j = k by omega]; exact hy)
    clear hy
    go_wp2
    go_roundw
    case rel => exact ⟨k + 1, by go_num, by omega, HZ2, trivial⟩
    case measure => simp [intOf]; omega
   ·have HF := Lh (HE.out k hlt (by rw [hy]; exact h0))
    have hyn : ((y : Int) == 0) = false := by simp; omega
    have hyn2 : ¬ (y : Int) = 0 := by omega
    clear hy
    go_wp2
    go_ret
    exact ⟨He HF.out.symm, rfl⟩
  ·have hko : k = o := by omega
   subst hko
   have HF := Lh (HL.out HZ.out)
   clear hlt hk
   go_wp2
   go_ret
   exact ⟨He (by rw [HF.out, ← Apy]), rfl⟩
def ShrQ (v q : Nat) (w : World) (e : Ending) (w' : World) : Prop :=
 ∃ A n c, e = .returned (.tuple #[.slice A n c, .bool (decide (v % 2 ^ q ≠ 0))]) ∧ n = (wds (v / 2 ^ q)).length ∧ n ≤ c ∧ RW w' w'.heap.size A (wds (v / 2 ^ q)) ∧ Below w.heap.size w w'
theorem ShrQ.same {v : Nat} {w w' : World} {A : Option Addr} {n c : Nat} (hn : n = (wds v).length) (hc : n ≤ c) (hr : RW w' w'.heap.size A (wds v)) (hb : Below w.heap.size w w') : ShrQ v 0 w (.returned (.tuple #[.slice A n c, .bool false])) w' :=
 ⟨A, n, c, by simp [Nat.mod_one], by simpa using hn, hc, by simpa using hr, hb⟩
theorem ShrQ.none {v q : Nat} {w w' : World} {b : Bool} (hv : v < 2 ^ q) (hb : b = decide (v ≠ 0)) (hw : Below w.heap.size w w') : ShrQ v q w (.returned (.tuple #[.slice none 0 0, .bool b])) w' :=
 ⟨Option.none, 0, 0, by rw [Nat.mod_eq_of_lt hv, hb], by rw [Nat.div_eq_of_lt hv]; rfl, Nat.le_refl _, by rw [Nat.div_eq_of_lt hv]; exact RW.nil _ _ _, hw⟩
theorem Ahx (A : Option Addr) (n c : Nat) (p : Int) (l : List Nat) (w : World) (hn : l.length = n) (hc : n ≤ c) (hm : n ≤ 35184372087808) (h : RW w w.heap.size A l) (hp : p ≤ 0) :
  Cp 177 #[.slice A n c, .int .i64 p] w (ShrQ (val l) 0 w) := by
 have c1 := As A n c l w.heap.size w hn hc (by omega) h
 have hle := Ba l
 obtain ⟨N, hN⟩ : ∃ N, (nrm l).length = N := ⟨_, rfl⟩
 rw [hN] at c1 hle
 have c2 := (Yi A N N (nrm l) w hN (Nat.le_refl _) (by omega) h.nrm).mono fun _ _ x => SlPost.of h.1.nrm.nrm x
 rw [Fb, Bh h.1] at c2
 clear hn hc hm h hle hN
 go_enter Tryz.func177, Tryz.ntmps177
 go_wp2_with fail
 refine c1.mono ?_
 rintro e w1 ⟨rfl, rfl⟩
 go_wp2_with fail
 refine c2.mono ?_
 rintro e w1 ⟨v1, rfl, ⟨A1, d1, rfl, hd, hr⟩, hb⟩
 have HD := Lh hd
 have HR := Lh hr
 have HB := Lh hb
 clear hd hr hb
 go_wp2
 go_ret2
 exact ShrQ.same rfl HD.out HR.out HB.out
theorem Ag8 (A : Option Addr) (n c p : Nat) (l : List Nat) (w : World) (hn : l.length = n) (hc : n ≤ c) (hm : n ≤ 35184372087808) (h : RW w w.heap.size A l) (hp : 0 < p) (hf : btl (nrm l) ≤ p) :
  Cp 177 #[.slice A n c, .int .i64 p] w (ShrQ (val l) p w) := by
 have c1 := As A n c l w.heap.size w hn hc (by omega) h
 have hle := Ba l
 have HV := Lh (show val l < 2 ^ p by
  by_cases h0 : nrm l = []
  ·rw [← Aq l, h0]; exact Nat.two_pow_pos p
  ·have := (Bp h.1.nrm (by rw [Fb]; exact h0)).2.1
   rw [Aq] at this
   exact Nat.lt_of_lt_of_le this (Nat.pow_le_pow_right (by omega) hf))
 have hz : (val l ≠ 0) ↔ 0 < (nrm l).length := by
  constructor
  ·intro a
   refine List.length_pos_iff.2 fun e => a ?_
   rw [← Aq l, e]; rfl
  ·intro a e
   rw [Cb e] at a
   exact absurd a (by simp)
 obtain ⟨N, hN⟩ : ∃ N, (nrm l).length = N := ⟨_, rfl⟩
 rw [hN] at c1 hle hz
 have HZ := Lh hz
 have c2 := Gf A N N (nrm l) w.heap.size w hN (Nat.le_refl _) (by omega) h.nrm
 have hp1 : ¬ (p : Int) ≤ 0 := by omega
 obtain ⟨t, ht⟩ : ∃ t, btl (nrm l) = t := ⟨_, rfl⟩
 rw [ht] at c2 hf
 have hf1 : (t : Int) ≤ (p : Int) := by omega
 clear hn hc hm h hle hN hz hp hf ht
 go_enter Tryz.func177, Tryz.ntmps177
 go_wp2_with fail
 refine c1.mono ?_
 rintro e w1 ⟨rfl, rfl⟩
 go_wp2_with fail
 refine c2.mono ?_
 rintro e w1 ⟨rfl, rfl⟩
 go_wp2
 go_ret2
 exact ShrQ.none HV.out (decide_eq_decide.2 HZ.out.symm) (Below.refl _ _)
theorem Aiv (A : Option Addr) (n c p o s : Nat) (l : List Nat) (w : World) (hn : l.length = n) (hc : n ≤ c) (hm : n ≤ 35184372087808) (h : RW w w.heap.size A l) (hp : 0 < p) (hf : p < btl (nrm l)) (hpo : p = 32 * o + s) (hs : s < 32) :
  Cp 177 #[.slice A n c, .int .i64 p] w (ShrQ (val l) p w) := by
 have c1 := As A n c l w.heap.size w hn hc (by omega) h
 have hle := Ba l
 have hbt := Ak6 h.1.nrm
 rw [Fb] at hbt
 obtain ⟨N, hN⟩ : ∃ N, (nrm l).length = N := ⟨_, rfl⟩
 rw [hN] at c1 hle hbt
 have hoN : o < N := by omega
 obtain ⟨b, off, rfl, _, _⟩ := h.2 (by omega)
 have hA := h.nrm
 have c2 := Gf (some ⟨b, off, none⟩) N N (nrm l) w.heap.size w hN (Nat.le_refl _) (by omega) hA
 obtain ⟨a, ha⟩ : ∃ a, nrm l = a := ⟨_, rfl⟩
 rw [← Aq l]
 rw [ha] at c2 hN hA hf ⊢
 have hmk := run_make_row' (P := Tryz.prog) 121 129 (.int .u32 0) 4 Tryz.underlying121 Ef rfl .i64 .i64 (N - o) (by omega) (by omega) w
 rw [show ((N - o : Nat) : Int) = (N : Int) - (o : Int) by omega] at hmk
 have hrow := Row.made w (N - o)
 have hbl0 : Below w.heap.size w (w.alloc (.cells (madeCells #[.int .u32 0] (N - o)) 129)) := (Below.refl _ _).alloc (Nat.le_refl _) _
 have C4 := Lh (All w.heap.size 0 (N - o) (N - o) s (List.replicate (N - o) 0) (some ⟨b, off + o, none⟩) (N - o) (N - o) (a.drop o) w.heap.size _ hrow (Ws.zeros _) (by rw [List.length_replicate]; omega) (by rw [List.length_drop, hN]) (by omega) (by omega) ((hA.drop o (by omega)).below hbl0) (Nat.le_refl _) hs)
 have C5 := Lh (fun (W2 : World) (hb : Below w.heap.size w W2) => Aeo b off N N p o s a w.heap.size W2 hN (Nat.le_refl _) (by omega) (hA.below hb) hpo hs hoN)
 have C6 := Lh (fun (S : List Nat) (W2 : World) (hS : ShrP (List.replicate (N - o) 0) 0 (a.drop o) s (N - o) S) (hr : Row W2 w.heap.size S) =>
  show Cp 218 #[.slice (some ⟨w.heap.size, 0, none⟩) (N - o) (N - o)] W2 (fun e w' => e = .returned (.slice (some ⟨w.heap.size, 0, none⟩) (wds (val a / 2 ^ p)).length (wds (val a / 2 ^ p)).length) ∧ W2 = w') from by
   have hlen : S.length = N - o := by rw [hS.len, List.length_replicate]
   have hv : val S = val a / 2 ^ p := by
    have := hS.whole (by rw [List.length_drop, hN]; exact Nat.le_refl _)
    rw [List.drop_zero, List.take_of_length_le (by omega)] at this
    rw [this, hpo, J1 hA.1 o s (by omega)]
   have := As (some ⟨w.heap.size, 0, none⟩) (N - o) (N - o) S (w.heap.size + 1) W2 hlen (Nat.le_refl _) (by omega) (hr.rw0 hS.ws)
   rw [Bh hS.ws, hv] at this
   exact this)
 have C7 := Lh (fun (S : List Nat) (W2 : World) (hS : ShrP (List.replicate (N - o) 0) 0 (a.drop o) s (N - o) S) (hr : Row W2 w.heap.size S) =>
  show RW W2 W2.heap.size (some ⟨w.heap.size, 0, none⟩) (wds (val a / 2 ^ p)) from by
   have hlen : S.length = N - o := by rw [hS.len, List.length_replicate]
   have hv : val S = val a / 2 ^ p := by
    have := hS.whole (by rw [List.length_drop, hN]; exact Nat.le_refl _)
    rw [List.drop_zero, List.take_of_length_le (by omega)] at this
    rw [this, hpo, J1 hA.1 o s (by omega)]
   have := ((hr.rw0 hS.ws).nrm).more hr.lt
   rw [Bh hS.ws, hv] at this
   exact this)
 obtain ⟨t, ht⟩ : ∃ t, btl a = t := ⟨_, rfl⟩
 rw [ht] at c2 hf
 obtain ⟨M, hM⟩ : ∃ M, (wds (val a / 2 ^ p)).length = M := ⟨_, rfl⟩
 rw [hM] at C6
 obtain ⟨lo, hlo⟩ : ∃ lo, decide (val a % 2 ^ p ≠ 0) = lo := ⟨_, rfl⟩
 rw [hlo] at C5
 have HM := Lh hM
 have HLO := Lh hlo
 have HBL := Lh hbl0
 have hp1 : ¬ (p : Int) ≤ 0 := by omega
 have hf1 : ¬ (t : Int) ≤ (p : Int) := by omega
 have hoN1 : (o : Int) < (N : Int) := by omega
 have hN1 : (N : Int) ≤ 35184372087808 := by omega
 have e3 : (p : Int) / 32 = (o : Int) := by omega
 have e4 : (p : Int) % 32 = (s : Int) := by omega
 clear hn hc hm h hle hN hp hf hpo hs hrow hbl0 hA ha hbt ht hM hlo
 go_enter Tryz.func177, Tryz.ntmps177
 go_wp2_with fail
 refine c1.mono ?_
 rintro e w1 ⟨rfl, rfl⟩
 go_wp2_with fail
 refine c2.mono ?_
 rintro e w1 ⟨rfl, rfl⟩
 clear c1 c2
 go_wp2_with fail
 refine C4.out.mono ?_
 rintro e w4 ⟨rfl, S, hS, hr, hb⟩
 have D6 := Lh (C6.out S w4 hS hr)
 have D7 := Lh (C7.out S w4 hS hr)
 have HB4 := Lh (HBL.out.trans hb)
 have D5 := Lh (C5.out w4 HB4.out)
 clear hS hr hb C4 C5 C6 C7
 go_wp2_with fail
 refine D6.out.mono ?_
 rintro e w5 ⟨rfl, rfl⟩
 go_wp2_with fail
 refine D5.out.mono ?_
 rintro e w5 ⟨rfl, rfl⟩
 go_wp2
 go_ret2
 exact ⟨some ⟨w.heap.size, 0, none⟩, M, M, by rw [HLO.out]; rfl, HM.out.symm, Nat.le_refl _, D7.out, HB4.out⟩
theorem Ahg (v k : Nat) : decide (v % 2 ^ (k + 1) ≠ 0) = (decide (v % 2 ^ k ≠ 0) || decide (v / 2 ^ k % 2 = 1)) := by
 have h := Nat.mod_pow_succ (b := 2) (x := v) (k := k)
 have hp : 0 < 2 ^ k := Nat.two_pow_pos k
 rw [h, ← Bool.decide_or]
 refine decide_eq_decide.2 ?_
 have h2 : v / 2 ^ k % 2 = 0 ∨ v / 2 ^ k % 2 = 1 := by omega
 rcases h2 with h2 | h2
 ·rw [h2, Nat.mul_zero]; omega
 ·rw [h2, Nat.mul_one]; omega
theorem Ak0 {x q R : Nat} (hq : q % 2 = 0) : (x + q * R) % 2 = x % 2 := by
 obtain ⟨k, rfl⟩ : ∃ k, q = 2 * k := ⟨q / 2, by omega⟩
 rw [Nat.mul_assoc, Nat.add_mul_mod_self_left]
theorem Oc {l : List Nat} (h : Ws l) (j r : Nat) (hj : j ≤ l.length) (hr : r < 32) : val l / 2 ^ (32 * j + r) % 2 = l.getD j 0 / 2 ^ r % 2 := by
 rw [J1 h j r hj]
 have e : l.getD j 0 = (l.drop j).getD 0 0 := by rw [Dl, Nat.add_zero]
 rw [e]
 cases l.drop j with
 | nil => simp [val]
 | cons x t =>
  simp only [val, List.getD_cons_zero]
  rw [← Ec (by omega : r ≤ 32), Nat.mul_assoc, Nat.add_mul_div_left _ _ (Nat.two_pow_pos r)]
  refine Ak0 ?_
  obtain ⟨k, hk⟩ : ∃ k, 32 - r = k + 1 := ⟨31 - r, by omega⟩
  rw [hk, Nat.pow_succ]; omega
theorem Agl (x y s : Nat) (hx : x < 4294967296) (hs : s < 32) : (x ||| y * 4294967296) = x + y * 4294967296 ∧ (x + y * 4294967296) / 2 ^ s % 4294967296 = y * 2 ^ (32 - s) % 4294967296 + x / 2 ^ s := by
 refine ⟨?_, ?_⟩
 ·have := Nat.two_pow_add_eq_or_of_lt (i := 32) hx y
  rw [Nat.or_comm, Nat.mul_comm y, show 4294967296 = 2 ^ 32 from rfl, ← this, Nat.add_comm]
 ·have h1 := Tx y x (32 - s) (by omega) hx
  rw [show 32 - (32 - s) = s by omega] at h1
  have h2 : (x + y * 4294967296) / 2 ^ s = x / 2 ^ s + y * 2 ^ (32 - s) := by
   rw [← Ec (by omega : s ≤ 32), show y * (2 ^ s * 2 ^ (32 - s)) = 2 ^ s * (y * 2 ^ (32 - s)) by grind, Nat.add_mul_div_left _ _ (Nat.two_pow_pos s)]
  rw [h2]
  generalize y * 2 ^ (32 - s) = X at *
  generalize x / 2 ^ s = Z at *
  omega
structure RsT (d : List Nat) (s k : Nat) (S : List Nat) : Prop where
 len : S.length = k
 ws : Ws S
 sum : 2 ^ s * val S + d.getD 0 0 % 2 ^ s = val (d.take k) + 4294967296 ^ k * (d.getD k 0 % 2 ^ s)
theorem RsT.start (d : List Nat) (s : Nat) : RsT d s 0 [] := ⟨rfl, Ws.nil, by simp [val]⟩
theorem RsT.next {d : List Nat} {s k : Nat} {S : List Nat} (h : RsT d s k S) (hd : Ws d) (hs : s ≤ 32) : RsT d s (k + 1) (S ++ [Hg d s k]) := by
 obtain ⟨h1, h2, h4⟩ := h
 refine ⟨by rw [List.length_append, h1]; rfl, h2.append (Ws.cons (Acm hd s k hs) Ws.nil), ?_⟩
 rw [Gd, h1, Av d k]
 have e := Ox d s k hs
 rw [Nat.pow_succ]
 generalize 4294967296 ^ k = K at *
 generalize Hg d s k = W at *
 have e2 : K * (2 ^ s * W + d.getD k 0 % 2 ^ s) = K * (d.getD k 0 + 4294967296 * (d.getD (k + 1) 0 % 2 ^ s)) := by rw [e]
 grind
theorem RsT.whole {d : List Nat} {s : Nat} {S : List Nat} (h : RsT d s d.length S) : val S = val d / 2 ^ s := by
 have h4 := h.sum
 have e : d.getD d.length 0 = 0 := by rw [List.getD_eq_getElem?_getD, List.getElem?_eq_none (Nat.le_refl _)]; rfl
 rw [e, Nat.zero_mod, Nat.mul_zero, Nat.add_zero, List.take_of_length_le (Nat.le_refl _)] at h4
 rw [← h4, Nat.add_comm, Nat.add_mul_div_left _ _ (Nat.two_pow_pos s), Nat.div_eq_of_lt (Nat.mod_lt _ (Nat.two_pow_pos s)), Nat.zero_add]
theorem Uv (x r : Nat) (hx : x < 4294967296) : bits BinOp.and IntKind.u32 ((x : Int) / 2 ^ r) 1 = ((x / 2 ^ r % 2 : Nat) : Int) := by
 have h1 : x / 2 ^ r ≤ x := Nat.div_le_self _ _
 have e : ((x : Int) / 2 ^ r) = ((x / 2 ^ r : Nat) : Int) := by rw [Int.natCast_ediv, Int.natCast_pow]; rfl
 rw [e]
 obtain ⟨m, hm⟩ : ∃ m, x / 2 ^ r = m := ⟨_, rfl⟩
 rw [hm] at h1 ⊢
 show IntKind.u32.wrap ((BitVec.ofInt 32 (m : Int) &&& BitVec.ofInt 32 1).toNat : Int) = _
 have e1 : (BitVec.ofInt 32 1).toNat = 1 := by decide
 have e2 : (BitVec.ofInt 32 (m : Int)).toNat = m := by
  rw [BitVec.ofInt_natCast, BitVec.toNat_ofNat]; exact Nat.mod_eq_of_lt (by omega)
 rw [BitVec.toNat_and, e1, e2, Nat.and_one_is_mod, IntKind.wrap_u32]
 omega
theorem Ag2 (A : Option Addr) (n c : Nat) (p : Int) (l : List Nat) (w : World) (hn : l.length = n) (hc : n ≤ c) (hm : n ≤ 35184372087808) (h : RW w w.heap.size A l) (hp : p ≤ 0) :
  Cp 194 #[.slice A n c, .int .i64 p] w (ShrQ (val l) 0 w) := by
 have c1 := (Bo A n c l w.heap.size w hn hc (by omega) h).mono (fun e w' x => SlPost.of h.1.nrm x)
 rw [Bh h.1] at c1
 clear hn hc hm h
 go_enter Tryz.func194, Tryz.ntmps194
 go_wp2_with fail
 refine c1.mono ?_
 rintro e w1 ⟨v1, rfl, ⟨A1, d1, rfl, hd, hr⟩, hb⟩
 have HD := Lh hd
 have HR := Lh hr
 have HB := Lh hb
 clear hd hr hb
 go_wp2
 go_ret2
 exact ShrQ.same rfl HD.out HR.out HB.out
theorem Ajm (A : Option Addr) (n c p : Nat) (l : List Nat) (w : World) (hn : l.length = n) (hc : n ≤ c) (hm : n ≤ 35184372087808) (h : RW w w.heap.size A l) (hp : 0 < p) (hf : 32 * (nrm l).length ≤ p) :
  Cp 194 #[.slice A n c, .int .i64 p] w (ShrQ (val l) p w) := by
 have c1 := (Bo A n c l w.heap.size w hn hc (by omega) h).mono (fun e w' x => SlPost.of h.1.nrm x)
 have hle := Ba l
 have HV := Lh (show val l < 2 ^ p by
  have := Ed h.1.nrm
  rw [Aq, Ke] at this
  exact Nat.lt_of_lt_of_le this (Nat.pow_le_pow_right (by omega) hf))
 have hz : (val l ≠ 0) ↔ 0 < (nrm l).length := by
  constructor
  ·intro a
   refine List.length_pos_iff.2 fun e => a ?_
   rw [← Aq l, e]; rfl
  ·intro a e
   rw [Cb e] at a
   exact absurd a (by simp)
 obtain ⟨N, hN⟩ : ∃ N, (nrm l).length = N := ⟨_, rfl⟩
 rw [hN] at hle hz hf
 have HZ := Lh hz
 have HN := Lh hN
 have hp1 : ¬ (p : Int) ≤ 0 := by omega
 have hf1 : 32 * (N : Int) ≤ (p : Int) := by omega
 have k1 : IntKind.i64.wrap (32 * (N : Int)) = 32 * (N : Int) := IntWalk.i64_in _ (by omega)
 clear hn hc hm h hle hN hz hp hf
 go_enter Tryz.func194, Tryz.ntmps194
 go_wp2_with fail
 refine c1.mono ?_
 rintro e w1 ⟨v1, rfl, ⟨A1, d1, rfl, _, _⟩, hb⟩
 rw [HN.out]
 have HB := Lh hb
 clear hb
 go_wp2
 go_ret2
 exact ShrQ.none HV.out (decide_eq_decide.2 HZ.out.symm) HB.out
theorem Ahr (A : Option Addr) (n c p o s : Nat) (l : List Nat) (w : World) (hn : l.length = n) (hc : n ≤ c) (hm : n ≤ 35184372087808) (h : RW w w.heap.size A l) (hp : 0 < p) (hf : p < 32 * (nrm l).length) (hpo : p = 32 * o + s) (hs : s < 32) :
  Cp 194 #[.slice A n c, .int .i64 p] w (ShrQ (val l) p w) := by
 obtain ⟨i0, hi, hz0, hz1, hz2⟩ := info_parts Ef
 have c1 := (Bo A n c l w.heap.size w hn hc (by omega) h).mono (fun e w' x => SlPost.of h.1.nrm x)
 have hle := Ba l
 rw [← Aq l]
 have hws := h.1.nrm
 obtain ⟨a, ha⟩ : ∃ a, nrm l = a := ⟨_, rfl⟩
 rw [ha] at c1 hle hf hws ⊢
 obtain ⟨N, hN⟩ : ∃ N, a.length = N := ⟨_, rfl⟩
 rw [hN] at hle hf
 have HN := Lh hN
 have HWS := Lh hws
 have HPO := Lh hpo
 have HS := Lh hs
 have HON := Lh (show o < N by omega)
 have hp1 : decide ((p : Int) ≤ 0) = false := decide_eq_false (by omega)
 have hp2 : decide (p = 0) = false := decide_eq_false (by omega)
 have hf1 : ¬ 32 * (N : Int) ≤ (p : Int) := by omega
 have hN1 : (N : Int) ≤ 35184372087808 := by omega
 have k1 : IntKind.i64.wrap (32 * (N : Int)) = 32 * (N : Int) := IntWalk.i64_in _ (by omega)
 have hpN : (p : Int) < 32 * (N : Int) := by omega
 have HD := Lh (show p / 32 = o ∧ p % 32 = s by omega)
 clear hn hc hm h hle hN hf hpo hs hws ha hp
 go_enter Tryz.func194, Tryz.ntmps194
 go_wp2_with fail
 refine c1.mono ?_
 rintro e w1 ⟨v1, rfl, ⟨A1, d1, rfl, hd1, hr1⟩, b1⟩
 rw [HN.out] at hd1 ⊢
 obtain ⟨b, off, rfl, hb, hcell⟩ := hr1.2 (by rw [HN.out]; have := HON.out; omega)
 have HCELL := Lh hcell
 have HR1 := Lh hr1
 have HB1 := Lh b1
 clear hcell hr1 b1 c1 hd1
 go_wp2
 go_loopw [6, 7] (fun lv i wr => ∃ (k : Nat), lv = .bool (decide (val a % 2 ^ k ≠ 0)) ∧ i = .int .i64 k ∧ k ≤ p ∧ w1 = wr) (fun _ i _ => p - (intOf i).toNat)
 case atStart => exact ⟨0, by simp [Nat.mod_one], rfl, Nat.zero_le _, rfl⟩
 case round =>
  obtain ⟨k, rfl, rfl, hk, rfl⟩ := hrel
  by_cases hlt : k < p
  ·obtain ⟨j, r, hjr, hr32⟩ : ∃ j r, k = 32 * j + r ∧ r < 32 := ⟨k / 32, k % 32, by omega, by omega⟩
   have hjN : j < N := by omega
   have hcl := HCELL.out j _ (getD_some (by rw [HN.out]; exact hjN))
   have hxl := HWS.out.getD j
   have HNX := Lh (Ahg (val a) k)
   have hbw := Oc HWS.out j r (by rw [HN.out]; omega) hr32
   rw [← hjr] at hbw
   obtain ⟨x, hx⟩ : ∃ x, a.getD j 0 = x := ⟨_, rfl⟩
   rw [hx] at hcl hxl hbw
   have hba := Uv x r hxl
   rw [← hbw] at hba
   have hkk : (k : Int) < (p : Int) := by omega
   have e3 : (k : Int) / 32 = (j : Int) := by omega
   have e4 : (k : Int) % 32 = (r : Int) := by omega
   have hj1 : (j : Int) < (N : Int) := by omega
   have hr0 : (0 : Int) ≤ (r : Int) := by omega
   have hp63 : (p : Int) < 9223372036854775807 := by omega
   cases hlost : decide (val a % 2 ^ k ≠ 0)
   ·cases hbit : decide (val a / 2 ^ k % 2 = 1)
    ·have hT : (bits BinOp.and IntKind.u32 ((x : Int) / 2 ^ r) 1 == 1) = false := by
      rw [hba]; have h := of_decide_eq_false hbit; generalize val a / 2 ^ k % 2 = z at h ⊢; simp; omega
     rw [hlost, hbit] at HNX
     clear hbw hba hx hxl hjr hr32 hbit hlost hjN hk
     go_wp2
     go_roundw
     case rel => exact ⟨k + 1, by rw [HNX.out]; rfl, by go_num, by omega, trivial⟩
     case measure => simp [intOf]; omega
    ·have hT : (bits BinOp.and IntKind.u32 ((x : Int) / 2 ^ r) 1 == 1) = true := by
      rw [hba]; have h := of_decide_eq_true hbit; rw [h]; rfl
     rw [hlost, hbit] at HNX
     clear hbw hba hx hxl hjr hr32 hbit hlost hjN hk
     go_wp2
     go_roundw
     case rel => exact ⟨k + 1, by rw [HNX.out]; rfl, by go_num, by omega, trivial⟩
     case measure => simp [intOf]; omega
   ·rw [hlost, Bool.true_or] at HNX
    clear hbw hba hx hxl hjr hr32 hlost hjN hk
    go_wp2
    go_roundw
    case rel => exact ⟨k + 1, by rw [HNX.out], by go_num, by omega, trivial⟩
    case measure => simp [intOf]; omega
  ·have hkp : k = p := by omega
   subst hkp
   obtain ⟨lo, hlo⟩ : ∃ lo, decide (val a % 2 ^ k ≠ 0) = lo := ⟨_, rfl⟩
   rw [hlo]
   have HLO := Lh hlo
   have e3 : (k : Int) / 32 = (o : Int) := by have := HD.out; omega
   have e4 : (k : Int) % 32 = (s : Int) := by have := HD.out; omega
   have hs0 : (0 : Int) ≤ (s : Int) := by omega
   have hoN1 : (o : Int) < (N : Int) := by have := HON.out; omega
   have C1 := Lh (fun W (hb : Below w1.heap.size w1 W) i => Ap (some ⟨b, off, none⟩) N d1 i a w1.heap.size W HN.out (by omega) (HR1.out.below hb))
   have HSTART := Lh (RsT.start (a.drop o) s)
   clear hlo hlt hk
   go_wp2
   go_loopw [8, 9] (fun v i wr => ∃ (m : Nat) (S : List Nat), i = .int .i64 m ∧ o ≤ m ∧ m ≤ N ∧ Hid (OwnW w1.heap.size S v wr) ∧ Hid (RsT (a.drop o) s (m - o) S) ∧ Below w1.heap.size w1 wr) (fun _ i _ => N - (intOf i).toNat)
   case atStart => exact ⟨o, [], rfl, Nat.le_refl _, by omega, Lh (OwnW.nil _ _), by rw [Nat.sub_self]; exact HSTART, Below.refl _ _⟩
   case round =>
    obtain ⟨m, S, rfl, hom, hmN, HO, HT, hbw⟩ := hrel
    by_cases hlt : m < N
    ·have HSL := Lh (show (S.length + 1) * 4 ≤ 140737488355328 ∧ S.length + 1 ≤ maxLen by have := HT.out.len; unfold maxLen; omega)
     have D1 := Lh (C1.out wr hbw m)
     have D2 := Lh (C1.out wr hbw (m + 1))
     have HNX := Lh (HT.out.next (HWS.out.drop o) (by have := HS.out; omega))
     have HW := Lh (show Hg (a.drop o) s (m - o) = a.getD (m + 1) 0 * 2 ^ (32 - s) % 4294967296 + a.getD m 0 / 2 ^ s by
      unfold Hg; rw [Dl, Dl, show o + (m - o + 1) = m + 1 by omega, show o + (m - o) = m by omega])
     have hxl := HWS.out.getD m
     have hyl := HWS.out.getD (m + 1)
     obtain ⟨x, hx⟩ : ∃ x, a.getD m 0 = x := ⟨_, rfl⟩
     obtain ⟨y, hy⟩ : ∃ y, a.getD (m + 1) 0 = y := ⟨_, rfl⟩
     rw [hx] at D1 HW hxl
     rw [hy] at D2 HW hyl
     rw [show ((m + 1 : Nat) : Int) = (m : Int) + 1 by omega] at D2
     obtain ⟨f1, f2⟩ := Agl x y s hxl HS.out
     obtain ⟨u, hu⟩ : ∃ u, y * 4294967296 = u := ⟨_, rfl⟩
     have k2 : IntKind.u64.wrap ((y : Int) * 4294967296) = (u : Int) := by rw [IntWalk.u64_in _ (by omega)]; omega
     obtain ⟨t, ht⟩ : ∃ t, x + u = t := ⟨_, rfl⟩
     rw [hu, ht] at f1 f2
     have k3 : bits BinOp.or IntKind.u64 (x : Int) (u : Int) = (t : Int) := by rw [E3 x u (by omega) (by omega), f1]
     obtain ⟨z, hz⟩ : ∃ z, t / 2 ^ s = z := ⟨_, rfl⟩
     have k4 : ((t : Int) / 2 ^ s) = (z : Int) := by rw [← hz, Int.natCast_ediv, Int.natCast_pow]; rfl
     rw [hz] at f2
     have ew : Hg (a.drop o) s (m - o) = z % 4294967296 := by rw [HW.out, f2]
     rw [ew, show m - o + 1 = m + 1 - o by omega] at HNX
     have hmm : (m : Int) < (N : Int) := by omega
     clear hx hy hxl hyl f1 f2 hu ht hz ew HW C1
     go_wp2_with fail
     refine D1.out.mono ?_
     rintro e w2 ⟨rfl, rfl⟩
     go_wp2_with fail
     refine D2.out.mono ?_
     rintro e w2 ⟨rfl, rfl⟩
     go_wp2_with (at_builtin; refine wpList_append_own _ rfl _ _ 121 rfl w1.heap.size 129 i0 (.int .u32 0) 1 4 Tryz.underlying121 hi hz0 hz1 hz2 rfl (by decide) _ _ _ rfl (World.ownsRow.alloc (w := wr) HO.out _) ⟨wr.heap.size, 0, none⟩ 1 1 [.int .u32 ((z % 4294967296 : Nat) : Int)] rfl rfl ?c1 ?c2 ?c3 ?c4 ?c5 ?_)
     case c1 => exact (cell_one_new _ _ _)
     case c2 => simp [Value.oneCell']
     case c3 => exact HSL.out.2
     case c4 => exact HSL.out.1
     case c5 => have := hbw.size; simp; omega
     intro v' w2 hown hg _
     have HO2 := Lh (OwnW.snoc hown)
     have hbb : Below w1.heap.size w1 w2 := (hbw.alloc hbw.size _).grown hg (by have := hbw.size; simp; omega) (fun j hj => (World.ownsRow.lt HO.out j hj).1)
     clear hown hg
     go_wp2
     go_roundw
     case rel => exact ⟨m + 1, _, by go_num, by omega, by omega, HO2, HNX, hbb⟩
     case measure => simp [intOf]; omega
    ·have hmN2 : m = N := by omega
     subst hmN2
     have HT2 := Lh (show RsT (a.drop o) s (a.drop o).length S by rw [List.length_drop, HN.out]; exact HT.out)
     have hv := HT2.out.whole
     have HE2 := Lh (show nrm S = wds (val a / 2 ^ k) by rw [Bh HT2.out.ws, hv, HPO.out, J1 HWS.out o s (by rw [HN.out]; exact hom)])
     have hSL := HT.out.len
     obtain ⟨A2, c2, hv2, hcc, hr2⟩ := HO.out.sl HT.out.ws
     obtain ⟨N2, hN2⟩ : ∃ N2, S.length = N2 := ⟨_, rfl⟩
     have C3 := Lh (Bo A2 N2 c2 S wr.heap.size wr hN2 (by rw [← hN2]; exact hcc) (by omega) hr2)
     rw [hN2] at hv2
     clear hr2 hcc hN2 hv hSL hlt hmN
     subst hv2
     go_wp2_with fail
     refine C3.out.mono ?_
     rintro e w3 ⟨v3, rfl, ho3, hb3⟩
     rw [HE2.out] at ho3
     obtain ⟨A3, c3, rfl, hc3, hr3⟩ := ho3.sl (Ax _)
     have HR3 := Lh hr3
     have HC3 := Lh hc3
     have HB3 := Lh (Aa HB1.out (Aa hbw hb3))
     clear ho3 C3 hr3 hc3 hb3
     go_wp2
     go_ret2
     exact ⟨A3, _, c3, by rw [HLO.out]; rfl, rfl, HC3.out, HR3.out, HB3.out⟩
theorem Eg (A : Option Addr) (n c : Nat) (p : Int) (l : List Nat) (w : World) (hn : l.length = n) (hc : n ≤ c) (hm : n ≤ 35184372087808) (h : RW w w.heap.size A l) :
  Cp 194 #[.slice A n c, .int .i64 p] w (ShrQ (val l) p.toNat w) := by
 by_cases hp : p ≤ 0
 ·rw [show p.toNat = 0 by omega]
  exact Ag2 A n c p l w hn hc hm h hp
 ·obtain ⟨q, rfl⟩ : ∃ q : Nat, p = (q : Int) := ⟨p.toNat, by omega⟩
  rw [Int.toNat_natCast]
  by_cases hf : 32 * (nrm l).length ≤ q
  ·exact Ajm A n c q l w hn hc hm h (by omega) hf
  ·exact Ahr A n c q (q / 32) (q % 32) l w hn hc hm h (by omega) (by omega) (by omega) (by omega)
theorem Ah7 (A : Option Addr) (n c : Nat) (p : Int) (l : List Nat) (w : World) (hn : l.length = n) (hc : n ≤ c) (hm : n ≤ 35184372087808) (h : RW w w.heap.size A l) :
  Cp 177 #[.slice A n c, .int .i64 p] w (ShrQ (val l) p.toNat w) := by
 by_cases hp : p ≤ 0
 ·rw [show p.toNat = 0 by omega]
  exact Ahx A n c p l w hn hc hm h hp
 ·obtain ⟨q, rfl⟩ : ∃ q : Nat, p = (q : Int) := ⟨p.toNat, by omega⟩
  rw [Int.toNat_natCast]
  by_cases hf : btl (nrm l) ≤ q
  ·exact Ag8 A n c q l w hn hc hm h (by omega) hf
  ·exact Aiv A n c q (q / 32) (q % 32) l w hn hc hm h (by omega) (by omega) (by omega) (by omega)
structure TakeT (R : List Nat) (o : Nat) (b : List Nat) (x k : Nat) (S : List Nat) (q : Nat) : Prop where
 len : S.length = R.length
 ws : Ws S
 far : ∀ j, j < o ∨ o + k ≤ j → S.getD j 0 = R.getD j 0
 sum : val ((S.drop o).take k) + x * val (b.take k) = val ((R.drop o).take k) + 4294967296 ^ k * q
 low : q < 4294967296
theorem TakeT.start {R : List Nat} (o : Nat) (b : List Nat) (x : Nat) (hR : Ws R) : TakeT R o b x 0 R 0 := ⟨rfl, hR, fun _ _ => rfl, by simp [val], by omega⟩
def Jx (b : List Nat) (x k q : Nat) : Nat := q + b.getD k 0 * x
def Ug (r t : Nat) : Nat := (r + 4294967296 * 2 - t % 4294967296 - 0) % 4294967296
def Ti (r t : Nat) : Nat := if r < t % 4294967296 + 0 then 1 else 0
theorem Acz {b : List Nat} {x k q : Nat} (hb : Ws b) (hx : x < 4294967296) (hq : q < 4294967296) : b.getD k 0 * x ≤ 18446744065119617025 ∧ Jx b x k q ≤ 18446744069414584320 := by
 have h1 := hb.getD k
 have h3 : b.getD k 0 * x ≤ 4294967295 * 4294967295 := Nat.mul_le_mul (by omega) (by omega)
 unfold Jx
 omega
theorem Akr (r t : Nat) (hr : r < 4294967296) : Ug r t + t = r + 4294967296 * (t / 4294967296 + Ti r t) := by
 unfold Ug Ti
 split <;> omega
theorem Adm (r t : Nat) (ht : t ≤ 18446744069414584320) : t / 4294967296 + Ti r t < 4294967296 := by
 unfold Ti
 split <;> omega
theorem TakeT.next {R : List Nat} {o : Nat} {b : List Nat} {x k : Nat} {S : List Nat} {q : Nat} (h : TakeT R o b x k S q) (hR : Ws R) (hb : Ws b) (hx : x < 4294967296) (ho : o + k < R.length) :
  S.getD (o + k) 0 = R.getD (o + k) 0 ∧ TakeT R o b x (k + 1) (S.set (o + k) (Ug (R.getD (o + k) 0) (Jx b x k q))) (Jx b x k q / 4294967296 + Ti (R.getD (o + k) 0) (Jx b x k q)) := by
 obtain ⟨h1, h2, h3, h4, h5⟩ := h
 have ht := (Acz (k := k) hb hx h5).2
 have hl := Adm (R.getD (o + k) 0) _ ht
 have hs := Akr (R.getD (o + k) 0) (Jx b x k q) (hR.getD _)
 have hc : Jx b x k q = q + b.getD k 0 * x := rfl
 refine ⟨h3 _ (.inr (Nat.le_refl _)), by rw [List.length_set]; exact h1, h2.set (by unfold Ug; omega), fun j hj => ?_, ?_, hl⟩
 ·rw [Ao (by omega), h3 j (by omega)]
 ·rw [Bd _ o k (by rw [List.length_set]; omega), Bd R o k ho, Av b k, Bb (by omega)]
  rw [E8 (l := S.set (o + k) (Ug (R.getD (o + k) 0) (Jx b x k q))) (m := S) o k (by rw [List.length_set]; omega) (by omega) (fun j _ hj => Ao (by omega))]
  rw [Nat.pow_succ]
  generalize Ug (R.getD (o + k) 0) (Jx b x k q) = W at *
  generalize Jx b x k q / 4294967296 + Ti (R.getD (o + k) 0) (Jx b x k q) = Q at *
  generalize 4294967296 ^ k = K at *
  generalize Jx b x k q = t at *
  generalize R.getD (o + k) 0 = r at *
  have e : K * (W + t) = K * (r + 4294967296 * Q) := by rw [hs]
  rw [hc] at e
  grind
structure StepT (R : List Nat) (o : Nat) (b : List Nat) (S : List Nat) (often below : Nat) : Prop where
 len : S.length = R.length
 ws : Ws S
 far : ∀ j, j < o ∨ o + (b.length + 1) ≤ j → S.getD j 0 = R.getD j 0
 sum : val ((S.drop o).take (b.length + 1)) + often * val b = val ((R.drop o).take (b.length + 1)) + 4294967296 ^ (b.length + 1) * below
 high : val ((R.drop o).take (b.length + 1)) / val b ≤ often
 low : below ≤ 1
 word : often < 4294967296
theorem TakeT.step {R : List Nat} {o : Nat} {b : List Nat} {x : Nat} {S : List Nat} {q : Nat} (h : TakeT R o b x b.length S q) (ho : o + b.length < R.length) (hR : Ws R) (hx : x < 4294967296)
  (hq : val ((R.drop o).take (b.length + 1)) / val b ≤ x) :
  S.getD (o + b.length) 0 = R.getD (o + b.length) 0 ∧
  StepT R o b (S.set (o + b.length) ((R.getD (o + b.length) 0 + 4294967296 * 2 - q - 0) % 4294967296)) x (if R.getD (o + b.length) 0 < q + 0 then 1 else 0) := by
 obtain ⟨h1, h2, h3, h4, h5⟩ := h
 refine ⟨h3 _ (.inr (Nat.le_refl _)), by rw [List.length_set]; exact h1, h2.set (by omega), fun j hj => ?_, ?_, hq, by split <;> omega, hx⟩
 ·rw [Ao (by omega), h3 j (by omega)]
 ·rw [Bd _ o _ (by rw [List.length_set]; omega), Bd R o _ ho, Bb (by omega)]
  rw [E8 (l := S.set (o + b.length) _) (m := S) o b.length (by rw [List.length_set]; omega) (by omega) (fun j _ hj => Ao (by omega))]
  rw [List.take_of_length_le (Nat.le_refl b.length)] at h4
  have hr := hR.getD (o + b.length)
  generalize R.getD (o + b.length) 0 = r at *
  have key : (r + 4294967296 * 2 - q - 0) % 4294967296 + q = r + 4294967296 * (if r < q + 0 then 1 else 0) := by split <;> omega
  generalize (r + 4294967296 * 2 - q - 0) % 4294967296 = W at *
  generalize (if r < q + 0 then 1 else 0) = c at *
  rw [Nat.pow_succ]
  generalize 4294967296 ^ b.length = K at *
  have e : K * (W + q) = K * (r + 4294967296 * c) := by rw [key]
  grind
theorem StepT.fin {R : List Nat} {o : Nat} {b : List Nat} {S : List Nat} {often : Nat} (h : StepT R o b S often 0) (hb : 0 < val b) :
  often = val ((R.drop o).take (b.length + 1)) / val b ∧ val ((S.drop o).take (b.length + 1)) = val ((R.drop o).take (b.length + 1)) % val b := by
 obtain ⟨h1, h2, h3, h4, h5, _, _⟩ := h
 rw [Nat.mul_zero, Nat.add_zero] at h4
 generalize val ((R.drop o).take (b.length + 1)) = P at *
 generalize val ((S.drop o).take (b.length + 1)) = s at *
 generalize val b = D at *
 have e1 : often ≤ P / D := by rw [Nat.le_div_iff_mul_le hb]; omega
 have e2 : often = P / D := by omega
 refine ⟨e2, ?_⟩
 have e3 := Nat.div_add_mod P D
 rw [← e2, Nat.mul_comm] at e3
 omega
theorem StepT.more {R : List Nat} {o : Nat} {b : List Nat} {S : List Nat} {often : Nat} (h : StepT R o b S often 1) (hb : 0 < val b) (ho : o + b.length < R.length) :
  0 < often ∧ val ((R.drop o).take (b.length + 1)) / val b < often := by
 obtain ⟨h1, h2, h3, h4, h5, _, _⟩ := h
 have hl := Ed ((h2.drop o).take (b.length + 1))
 rw [List.length_take, List.length_drop, Nat.min_eq_left (by omega)] at hl
 generalize val ((R.drop o).take (b.length + 1)) = P at *
 generalize val ((S.drop o).take (b.length + 1)) = s at *
 generalize val b = D at *
 have e : P / D < often := by rw [Nat.div_lt_iff_lt_mul hb]; omega
 exact ⟨Nat.lt_of_le_of_lt (Nat.zero_le _) e, e⟩
theorem StepT.back {R : List Nat} {o : Nat} {b : List Nat} {S : List Nat} {often : Nat} {T : List Nat} {q : Nat} (h : StepT R o b S often 1) (hb : 0 < val b) (ho : o + b.length < R.length)
  (hT : AddT S o b 1 b.length T q) :
  T.getD (o + b.length) 0 = S.getD (o + b.length) 0 ∧ (S.getD (o + b.length) 0 + q + 0) / 4294967296 ≤ 1 ∧
  StepT R o b (T.set (o + b.length) ((S.getD (o + b.length) 0 + q + 0) % 4294967296)) (often - 1) (1 - (S.getD (o + b.length) 0 + q + 0) / 4294967296) := by
 obtain ⟨m1, m2⟩ := h.more hb ho
 obtain ⟨h1, h2, h3, h4, h5, h6, h7⟩ := h
 obtain ⟨g1, g2, g3, g4, g5⟩ := hT
 have hs := h2.getD (o + b.length)
 refine ⟨g3 _ (.inr (Nat.le_refl _)), by omega, by rw [List.length_set]; omega, g2.set (by omega), fun j hj => ?_, ?_, by omega, by omega, by omega⟩
 ·rw [Ao (by omega), g3 j (by omega), h3 j (by omega)]
 ·rw [Bd _ o _ (by rw [List.length_set]; omega), Bb (by omega)]
  rw [E8 (l := T.set (o + b.length) _) (m := T) o b.length (by rw [List.length_set]; omega) (by omega) (fun j _ hj => Ao (by omega))]
  rw [Bd S o _ (by omega)] at h4
  rw [List.take_of_length_le (Nat.le_refl b.length)] at g4
  obtain ⟨k, rfl⟩ : ∃ k, often = k + 1 := ⟨often - 1, by omega⟩
  have hc : (S.getD (o + b.length) 0 + q + 0) / 4294967296 ≤ 1 := by omega
  generalize S.getD (o + b.length) 0 = r at *
  obtain ⟨c, hcc⟩ : ∃ c, (r + q + 0) / 4294967296 = c := ⟨_, rfl⟩
  obtain ⟨W, hW⟩ : ∃ W, (r + q + 0) % 4294967296 = W := ⟨_, rfl⟩
  have key : W + 4294967296 * c = r + q := by omega
  rw [hcc] at hc ⊢
  rw [hW]
  rw [Nat.pow_succ] at h4 ⊢
  generalize 4294967296 ^ b.length = K at *
  have e : K * (W + 4294967296 * c) = K * (r + q) := by rw [key]
  rw [Nat.add_sub_cancel]
  obtain ⟨d, hd⟩ : ∃ d, 1 - c = d := ⟨_, rfl⟩
  have hcd : c + d = 1 := by omega
  rw [hd]
  have e2 : K * 4294967296 * (c + d) = K * 4294967296 * 1 := by rw [hcd]
  grind
theorem Agm {P D h1 h0 t K p' d' : Nat} (hP : P = p' + K * (h0 + 4294967296 * h1)) (hp : p' < K) (hD : D = d' + K * t) (ht : 0 < t) : P / D ≤ (h1 * 4294967296 + h0) / t := by
 rcases Nat.eq_zero_or_pos K with hK | hK
 ·omega
 rw [Nat.le_div_iff_mul_le ht]
 have e1 : P / D * D ≤ P := Nat.div_mul_le_self P D
 generalize P / D = q at *
 have e2 : q * D = q * d' + K * (q * t) := by rw [hD]; grind
 have e3 : K * (q * t) < K * (h0 + 4294967296 * h1 + 1) := by rw [Nat.mul_add K, Nat.mul_one]; omega
 have := Nat.lt_of_mul_lt_mul_left e3
 omega
theorem Nq (n : Nat) (h : n < 4294967296) : n.testBit 31 = decide (2147483648 ≤ n) := by
 rw [Nat.testBit_eq_decide_div_mod_eq]
 exact decide_eq_decide.2 (by rw [show 2 ^ 31 = 2147483648 from rfl]; omega)
theorem Amg (n : Nat) (h : n < 4294967296) : n / 2147483648 = if n.testBit 31 = true then 1 else 0 := by
 rw [Nq n h]
 by_cases h1 : 2147483648 ≤ n
 ·rw [if_pos (by simpa using h1)]; omega
 ·rw [if_neg (by simpa using h1)]; omega
theorem Za (x y c D : Nat) (hx : x < 4294967296) (hy : y < 4294967296) (hc : c ≤ 1) (hD : (x + 4294967296 * 2 - y - c) % 4294967296 = D) :
  bits BinOp.or IntKind.u32 (bits BinOp.and IntKind.u32 (bits BinOp.xor IntKind.u32 IntKind.u32.max (x : Int)) (y : Int)) (bits BinOp.and IntKind.u32 (bits BinOp.xor IntKind.u32 IntKind.u32.max (bits BinOp.xor IntKind.u32 (x : Int) (y : Int))) (D : Int)) / 2147483648 = ((if x < y + c then 1 else 0 : Nat) : Int) := by
 have hD2 : D < 4294967296 := by omega
 have hm : IntKind.u32.max = ((4294967295 : Nat) : Int) := rfl
 have p32 : (4294967296 : Nat) = 2 ^ 32 := rfl
 have a1 : 4294967295 ^^^ x < 4294967296 := by rw [p32]; exact Nat.xor_lt_two_pow (by omega) (by omega)
 have a2 : x ^^^ y < 4294967296 := by rw [p32]; exact Nat.xor_lt_two_pow (by omega) (by omega)
 have a3 : 4294967295 ^^^ (x ^^^ y) < 4294967296 := by rw [p32]; exact Nat.xor_lt_two_pow (by omega) (by omega)
 have a4 : (4294967295 ^^^ x) &&& y < 4294967296 := Nat.lt_of_le_of_lt Nat.and_le_right hy
 have a5 : (4294967295 ^^^ (x ^^^ y)) &&& D < 4294967296 := Nat.lt_of_le_of_lt Nat.and_le_right hD2
 have a6 : ((4294967295 ^^^ x) &&& y) ||| ((4294967295 ^^^ (x ^^^ y)) &&& D) < 4294967296 := by rw [p32] at *; exact Nat.or_lt_two_pow a4 a5
 rw [hm, u32_xor_nat _ _ (by omega) hx, u32_xor_nat _ _ hx hy, u32_xor_nat _ _ (by omega) a2, u32_and_nat _ _ a1 hy, u32_and_nat _ _ a3 hD2, u32_or_nat _ _ a4 a5]
 obtain ⟨n, hn⟩ : ∃ n, ((4294967295 ^^^ x) &&& y) ||| ((4294967295 ^^^ (x ^^^ y)) &&& D) = n := ⟨_, rfl⟩
 have hb : n.testBit 31 = ((!decide (2147483648 ≤ x) && decide (2147483648 ≤ y)) || ((decide (2147483648 ≤ x) == decide (2147483648 ≤ y)) && decide (2147483648 ≤ D))) := by
  rw [← hn, Nat.testBit_or, Nat.testBit_and, Nat.testBit_and, Nat.testBit_xor, Nat.testBit_xor, Nat.testBit_xor, Nq x hx, Nq y hy, Nq D hD2, show Nat.testBit 4294967295 31 = true by decide]
  cases decide (2147483648 ≤ x) <;> cases decide (2147483648 ≤ y) <;> cases decide (2147483648 ≤ D) <;> rfl
 rw [hn] at a6 ⊢
 have h2 := Amg n a6
 have h3 : ((n : Nat) : Int) / 2147483648 = ((n / 2147483648 : Nat) : Int) := by omega
 rw [h3, h2, hb]
 clear hb h2 h3 a1 a2 a3 a4 a5 a6 hm p32 hn
 by_cases b1 : 2147483648 ≤ x <;> by_cases b2 : 2147483648 ≤ y <;> by_cases b3 : 2147483648 ≤ D <;> by_cases b4 : x < y + c <;> simp [b1, b2, b3, b4] <;> omega
theorem Alf {a b c d : Int} (h : a = c) (g : b = d) : Ending.returned (.tuple #[.int .u32 a, .int .u32 b]) = .returned (.tuple #[.int .u32 c, .int .u32 d]) := by rw [h, g]
theorem Lo (x y c : Nat) (w : World) (hx : x < 4294967296) (hy : y < 4294967296) (hc : c ≤ 1) :
  Cq 234 #[.int .u32 x, .int .u32 y, .int .u32 c] (.tuple #[.int .u32 ((x + 4294967296 * 2 - y - c) % 4294967296 : Nat), .int .u32 ((if x < y + c then 1 else 0 : Nat) : Int)]) w := by
 obtain ⟨D, hD⟩ : ∃ D : Nat, (x + 4294967296 * 2 - y - c) % 4294967296 = D := ⟨_, rfl⟩
 have hb := Za x y c D hx hy hc hD
 obtain ⟨r, hr⟩ : ∃ r : Nat, (if x < y + c then 1 else 0 : Nat) = r := ⟨_, rfl⟩
 rw [hr] at hb
 rw [hD, hr]
 have hd : ((x : Int) - (y : Int) - (c : Int)) % 4294967296 = (D : Int) := by omega
 have hsg : IntKind.u32.signed = false := rfl
 have HB := Lh hb
 clear hx hy hc hD hr hb
 go_enter Tryz.func234, Tryz.ntmps234
 go_wp2
 go_ret2
 exact ⟨Alf (by omega) HB.out, rfl⟩
theorem Akk (g n c d s : Nat) (R : List Nat) (w : World) (hR : Row w g R) (hRw : Ws R) (hl : R.length = n) (hn : n ≤ 4096) (hs : s < 32) :
  Cp 221 #[.slice (some ⟨g, 0, none⟩) n c, .slice (some ⟨g, 0, none⟩) n d, .int .i64 s] w (fun e w' => e = .returned (.tuple #[]) ∧ ∃ S, ShrP R 0 R s n S ∧ Row w' g S ∧ Only g w w') := by
 have hn1 : (n : Int) ≤ 4096 := by omega
 have hs1 : (s : Int) < 32 := by omega
 have hs0 : (0 : Int) ≤ (s : Int) := by omega
 have HL := Lh hl
 have HRW := Lh hRw
 have HR := Lh hR
 have HSTART := Lh (ShrP.start 0 R s hRw)
 clear hR hRw hl
 go_enter Tryz.func221, Tryz.ntmps221
 go_wp2
 go_loopw [9] (fun i wr => ∃ (k : Nat) (S : List Nat), i = .int .i64 k ∧ k ≤ n ∧ Hid (Row wr g S) ∧ Hid (ShrP R 0 R s k S) ∧ Only g w wr) (fun i _ => n - (intOf i).toNat)
 case atStart => exact ⟨0, R, rfl, Nat.zero_le _, HR, HSTART, Only.refl _ _⟩
 case round =>
  obtain ⟨k, S, rfl, hk, HRS, HS, hbw⟩ := hrel
  by_cases hlt : k < n
  ·have hSl : S.length = n := by rw [HS.out.len, HL.out]
   have hS := HRS.out.cell k (by omega)
   have hfz := HRS.out.frozen k
   have HNX := Lh (HS.out.next HRW.out (by omega) (by rw [HL.out]; omega))
   have HROW := Lh (HRS.out.set k (Hg R s k))
   have hgg := HRS.out.lt
   have HRR := Lh (fun W (hW : Below (g + 1) wr W) => show RW W (g + 1) (some ⟨g, 0, none⟩) S from (HRS.out.rw0 HS.out.ws).below hW)
   have HF := Lh HS.out.far
   have C1 := Lh (fun W (hW : Below (g + 1) wr W) => show Cp 178 #[.slice (some ⟨g, 0, none⟩) n d, .int .i64 k] W fun e w' => e = .returned (.int .u32 (R.getD k 0 : Nat)) ∧ W = w' from by
    have := Dz (some ⟨g, 0, none⟩) n d k S (g + 1) W hSl (by omega) (HRR.out W hW)
    rw [HF.out k (by omega)] at this; exact this)
   have C2 := Lh (fun W (hW : Below (g + 1) wr W) => show Cp 178 #[.slice (some ⟨g, 0, none⟩) n d, .int .i64 ((k + 1 : Nat) : Int)] W fun e w' => e = .returned (.int .u32 (R.getD (k + 1) 0 : Nat)) ∧ W = w' from by
    have := Dz (some ⟨g, 0, none⟩) n d (k + 1) S (g + 1) W hSl (by omega) (HRR.out W hW)
    rw [HF.out (k + 1) (by omega)] at this; exact this)
   have hbd := Ae (Below.refl (g + 1) wr) 1
   have HBS := Lh (show Only g w (wr.setCell ⟨g, k, none⟩ (.int .u32 (Hg R s k : Nat))) from hbw.setCell _)
   obtain ⟨x, hx⟩ : ∃ x, R.getD k 0 = x := ⟨_, rfl⟩
   rw [hx] at C1
   obtain ⟨y, hy⟩ : ∃ y, R.getD (k + 1) 0 = y := ⟨_, rfl⟩
   rw [hy] at C2
   rw [show ((k + 1 : Nat) : Int) = (k : Int) + 1 by omega] at C2
   have HW := Lh (show ((Hg R s k : Nat) : Int) = bits BinOp.or IntKind.u32 ((x : Int) / 2 ^ s) ((y : Int) * 2 ^ (32 - s) % 4294967296) by
    rw [Ag9 x y s (by omega) (by rw [← hx]; exact HRW.out.getD k)]
    unfold Hg; rw [hx, hy])
   have hkk : (k : Int) < (n : Int) := by omega
   have e1 : IntKind.i64.wrap ((k : Int) + 1) = (k : Int) + 1 := IntWalk.i64_in _ (by omega)
   have e2 : IntKind.i64.wrap (32 - (s : Int)) = 32 - (s : Int) := IntWalk.i64_in _ (by omega)
   have e3 : (0 : Int) ≤ 32 - (s : Int) := by omega
   rw [Nat.zero_add] at HNX
   clear hx hy hk hSl hgg
   go_wp2
   go_region_with (first
      | (go_at_call 178; (with_reducible refine (C1.out _ ?_).mono ?_); exact hbd; rintro e w' ⟨rfl, rfl⟩)
      | (go_at_call 178; (with_reducible refine (C2.out _ ?_).mono ?_); exact hbd; rintro e w' ⟨rfl, rfl⟩))
   all_goals
    go_wp2_with fail
    rw [← HW.out]
    exact ⟨⟨k + 1, _, by go_num, hlt, HROW, HNX, HBS.out.drewN 1⟩, by simp [intOf]; omega⟩
  ·have hkn : k = n := by omega
   subst hkn
   clear hlt
   go_wp2
   go_end0
   exact ⟨rfl, S, HS.out, HRS.out, hbw⟩
theorem Ab2 {B : Nat} {a w : World} (h : Below B a w) : Below B a w.drew := ⟨h.os, h.tape, h.output, h.size, h.block⟩
def Agr (v u : Nat) (w : World) (e : Ending) (w' : World) : Prop := if (Am v || Am u) = true then Do 3 w e w' else if v < u then Do 1 w e w' else NatPost (v - u) w e w'
theorem Aop (A C : Option Addr) (n c m d : Nat) (l k : List Nat) (w : World) (hn : l.length = n) (hc : n ≤ c) (hm : n ≤ 35184372088832) (h : RW w w.heap.size A l)
  (gn : k.length = m) (gc : m ≤ d) (gm : m ≤ 35184372088832) (g : RW w w.heap.size C k) (hl : (Am (val l) || Am (val k)) = false) (hle : val k ≤ val l) :
  Cp 202 #[.slice A n c, .slice C m d] w (NatPost (val l - val k) w) := by
 have c1 := Cj A C n c m d l k w hn hc hm h gn gc gm g
 have hp : Below w.heap.size w (Fr w (.slice A n c) (.slice C m d)) := (Below.refl _ _).alloc (Nat.le_refl _) _
 rw [hl] at c1
 obtain ⟨hl1, hl2⟩ : Am (val l) = false ∧ Am (val k) = false := by simpa using hl
 have c4 := Ac6 A C n c m d l k w.heap.size w.heap.size _ hn hc hm (h.below hp) gn gc gm (g.below hp)
 have c2 := fun j => As A n c l w.heap.size ((Fr w (.slice A n c) (.slice C m d)).drewN j) hn hc hm (h.below (Ae hp j))
 have c3 := fun j => As C m d k w.heap.size ((Fr w (.slice A n c) (.slice C m d)).drewN j) gn gc gm (g.below (Ae hp j))
 have hord : ord l k = 0 ∨ ord l k = 1 := by
  rcases Nat.lt_or_ge (val k) (val l) with h1 | h1
  ·exact .inr (Jo h1)
  ·exact .inl (Lj (by omega))
 have n1 := Ej h.1 hl1
 have n12 : (nrm k).length ≤ (nrm l).length := by
  rcases Nat.lt_or_ge (nrm l).length (nrm k).length with h1 | h1
  ·have := No h.1 h1; omega
  ·exact h1
 obtain ⟨a, ha⟩ : ∃ a, nrm l = a := ⟨_, rfl⟩
 obtain ⟨b, hb⟩ : ∃ b, nrm k = b := ⟨_, rfl⟩
 have hA := h.nrm
 have hB := g.nrm
 rw [ha] at n1 c2 hA n12
 rw [hb] at c3 hB n12
 rw [← Aq l, ← Aq k, ha, hb] at hle ⊢
 obtain ⟨N, hN⟩ : ∃ N, a.length = N := ⟨_, rfl⟩
 obtain ⟨M, hM⟩ : ∃ M, b.length = M := ⟨_, rfl⟩
 rw [hN] at n1 c2 n12
 rw [hM] at c3 n12
 obtain ⟨o, ho⟩ : ∃ o, ord l k = o := ⟨_, rfl⟩
 rw [ho] at c4 hord
 clear h g hn hc hm gn gc gm hl hl1 hl2 ha hb ho
 obtain ⟨W, hW⟩ : ∃ W, Fr w (.slice A n c) (.slice C m d) = W := ⟨_, rfl⟩
 rw [hW] at c1 c2 c3 c4 hp
 have HW := Lh hW
 have hmk := fun j => run_make_row' (P := Tryz.prog) 121 129 (.int .u32 0) 4 Tryz.underlying121 Ef rfl .i64 .i64 N (by omega) (by omega) (W.drewN j)
 have hNN : (N : Int) ≤ 1024 := by omega
 have HN := Lh hN
 have HM := Lh hM
 have HA := Lh hA
 have HB := Lh hB
 have hgW := hp.size
 have HROW := Lh (fun j => Row.made (W.drewN j) N)
 have HBL := Lh (fun j => (show Below w.heap.size w ((W.drewN j).alloc (.cells (madeCells #[.int .u32 0] N) 129)) from (Ae hp j).alloc hp.size _))
 have N12 := Lh n12
 have HLE := Lh hle
 clear hA hB hN hM hp n1 n12 hW hle
 rcases hord with rfl | rfl
 all_goals
  go_enter Tryz.func202, Tryz.ntmps202
  go_wp2_with fail
  rw [show w.alloc (.cells #[.slice A n c, .slice C m d] 121) = W from HW.out]
  refine c1.mono ?_
  rintro e w1 ⟨rfl, rfl⟩
  go_wp2_with fail
  refine c4.mono ?_
  rintro e w1 ⟨rfl, j0, rfl⟩
  go_wp2_with fail
  refine (c2 _).mono ?_
  rintro e w1 ⟨rfl, rfl⟩
  go_wp2_with fail
  refine (c3 _).mono ?_
  rintro e w1 ⟨rfl, rfl⟩
  have hmk0 := hmk j0
  clear c1 c2 c3 c4 hmk
  go_wp2
  go_loopw [26, 7] (fun i v wr => ∃ (q : Nat) (S : List Nat) (r : Nat), i = .int .i64 q ∧ v = .int .u32 (r : Nat) ∧ q ≤ N ∧ Hid (Row wr W.heap.size S) ∧ Hid (SubT a b q S r) ∧ Hid (S.length = N) ∧ Below w.heap.size w wr) (fun i _ _ => N - (intOf i).toNat)
  case atStart => exact ⟨0, _, 0, rfl, rfl, Nat.zero_le _, Lh (HROW.out j0), Lh (SubT.start a b _ (Ws.zeros _)), Lh List.length_replicate, HBL.out j0⟩
  case round =>
   obtain ⟨q, S, r, rfl, rfl, hq, HR, HT, HSL, hbw⟩ := hrel
   by_cases hlt : q < N
   ·have hx := HA.out.1.getD q
    have hy := HB.out.1.getD q
    have hr := HT.out.low
    have hcell := HR.out.cell q (by rw [HSL.out]; exact hlt)
    have hfz := HR.out.frozen q
    obtain ⟨ab, ao, hAe, hab, hca⟩ := HA.out.2 (by rw [HN.out]; omega)
    have hcl := hca q _ (getD_some (by rw [HN.out]; exact hlt))
    rw [← hbw.cell (p := ⟨ab, ao + q, none⟩) hab] at hcl
    obtain ⟨t, ht⟩ : ∃ t, Xn a b q r = t := ⟨_, rfl⟩
    obtain ⟨r2, hr2⟩ : ∃ r2, Abr a b q r = r2 := ⟨_, rfl⟩
    have htl : t < 4294967296 := by rw [← ht]; unfold Xn; omega
    have C2 := Lh (fun W (hB : Below w.heap.size w W) => Dz C M M q b w.heap.size W HM.out (by have := N12.out; omega) (HB.out.below hB))
    have C3 := Lh (fun W => show Cp 234 #[.int .u32 (a.getD q 0 : Nat), .int .u32 (b.getD q 0 : Nat), .int .u32 (r : Nat)] W fun e w' => e = .returned (.tuple #[.int .u32 (t : Nat), .int .u32 (r2 : Nat)]) ∧ W = w' from by
     have := Lo (a.getD q 0) (b.getD q 0) r W hx hy hr
     rw [show (a.getD q 0 + 4294967296 * 2 - b.getD q 0 - r) % 4294967296 = t from ht, show (if a.getD q 0 < b.getD q 0 + r then 1 else 0) = r2 from hr2] at this
     exact this)
    have hbd : Below w.heap.size w wr.drew := ⟨hbw.os, hbw.tape, hbw.output, hbw.size, hbw.block⟩
    obtain ⟨x, hxe⟩ : ∃ x, a.getD q 0 = x := ⟨_, rfl⟩
    rw [hxe] at hcl C3
    have HSET := Lh (HR.out.set q t)
    have HNX := Lh (show SubT a b (q + 1) (S.set q t) r2 by
     rw [← hr2]
     refine HT.out.next HA.out.1 HB.out.1 (HT.out.ws.set htl) ?_ ?_
     ·exact Cn q (by rw [List.length_set, HSL.out]; omega) (by rw [HSL.out]; omega) (fun j hj => Ao (by omega))
     ·rw [Bb (by rw [HSL.out]; exact hlt), ht])
    have HSL2 := Lh (show (S.set q t).length = N by rw [List.length_set]; exact HSL.out)
    have hq1 : (q : Int) < (N : Int) := by omega
    have hq0 : (0 : Int) ≤ (q : Int) := by omega
    subst hAe
    clear hx hy hr ht htl hr2 hxe hca hab
    go_wp2
    go_region_with (first
      | (go_at_call 178; refine (C2.out _ ?_).mono ?_; exact hbd; rintro e w' ⟨rfl, rfl⟩)
      | (go_at_call 234; refine (C3.out _).mono ?_; rintro e w' ⟨rfl, rfl⟩))
    all_goals
     go_wp2_with fail
     go_roundw
     case rel => exact ⟨q + 1, _, r2, by go_num, rfl, by omega, Lh (show Row _ _ _ from HSET.out), HNX, HSL2, Ab2 (hbw.setCell hgW _)⟩
     case measure => simp [intOf]; omega
   ·have hqN : q = N := by omega
    have hlt2 := HR.out.lt
    have HV := Lh (show val S = val a - val b from (hqN ▸ HT.out : SubT a b N S r).whole (by rw [HN.out]; exact Nat.le_refl _) (by rw [HM.out]; exact N12.out) HSL.out HLE.out)
    have C1 := Lh (Ge (some ⟨W.heap.size, 0, none⟩) N N S wr HSL.out (Nat.le_refl _) (by omega) ((HR.out.rw0 HT.out.ws).more hlt2))
    have hq1 : ¬ (q : Int) < (N : Int) := by omega
    clear hqN hlt2
    go_wp2_with fail
    refine C1.out.mono ?_
    rintro e w2 h
    have h2 := NatPost.from_ hbw h
    rw [HV.out] at h2
    obtain ⟨A2, n2, c2, k2, rfl, h3, h4⟩ := h2
    have H3 := Lh h3
    have H4 := Lh h4
    clear h h3 h4 C1
    go_wp2
    go_ret2
    exact ⟨A2, n2, c2, k2, rfl, H3.out, H4.out⟩
theorem Ag0 (A C : Option Addr) (n c m d : Nat) (l k : List Nat) (w : World) (hn : l.length = n) (hc : n ≤ c) (hm : n ≤ 35184372088832) (h : RW w w.heap.size A l)
  (gn : k.length = m) (gc : m ≤ d) (gm : m ≤ 35184372088832) (g : RW w w.heap.size C k) (hl : (Am (val l) || Am (val k)) = true) :
  Cp 202 #[.slice A n c, .slice C m d] w (Do 3 w) := by
 have c1 := Cj A C n c m d l k w hn hc hm h gn gc gm g
 have hp : Below w.heap.size w (Fr w (.slice A n c) (.slice C m d)) := (Below.refl _ _).alloc (Nat.le_refl _) _
 rw [hl] at c1
 have HP := Lh hp
 clear h g hn hc hm gn gc gm hl hp
 go_enter Tryz.func202, Tryz.ntmps202
 go_wp2_with fail
 refine c1.mono ?_
 rintro e w1 ⟨rfl, rfl⟩
 go_wp2
 go_ret2
 exact ⟨rfl, HP.out⟩
theorem Ak1 (A C : Option Addr) (n c m d : Nat) (l k : List Nat) (w : World) (hn : l.length = n) (hc : n ≤ c) (hm : n ≤ 35184372088832) (h : RW w w.heap.size A l)
  (gn : k.length = m) (gc : m ≤ d) (gm : m ≤ 35184372088832) (g : RW w w.heap.size C k) (hl : (Am (val l) || Am (val k)) = false) (hlt : val l < val k) :
  Cp 202 #[.slice A n c, .slice C m d] w (Do 1 w) := by
 have c1 := Cj A C n c m d l k w hn hc hm h gn gc gm g
 have hp : Below w.heap.size w (Fr w (.slice A n c) (.slice C m d)) := (Below.refl _ _).alloc (Nat.le_refl _) _
 rw [hl] at c1
 have c4 := Ac6 A C n c m d l k w.heap.size w.heap.size _ hn hc hm (h.below hp) gn gc gm (g.below hp)
 rw [Jw hlt] at c4
 have HP := Lh hp
 clear h g hn hc hm gn gc gm hl hp hlt
 go_enter Tryz.func202, Tryz.ntmps202
 go_wp2_with fail
 refine c1.mono ?_
 rintro e w1 ⟨rfl, rfl⟩
 go_wp2_with fail
 refine c4.mono ?_
 rintro e w1 ⟨rfl, j0, rfl⟩
 go_wp2
 go_ret2
 exact ⟨rfl, Ae HP.out j0⟩
theorem Ank (A C : Option Addr) (n c m d : Nat) (l k : List Nat) (w : World) (hn : l.length = n) (hc : n ≤ c) (hm : n ≤ 35184372088832) (h : RW w w.heap.size A l)
  (gn : k.length = m) (gc : m ≤ d) (gm : m ≤ 35184372088832) (g : RW w w.heap.size C k) :
  Cp 202 #[.slice A n c, .slice C m d] w (Agr (val l) (val k) w) := by
 cases hl : (Am (val l) || Am (val k))
 ·by_cases hlt : val l < val k
  ·exact (Ak1 A C n c m d l k w hn hc hm h gn gc gm g hl hlt).mono (fun e w' x => by unfold Agr; rw [if_neg (by rw [hl]; simp), if_pos hlt]; exact x)
  ·exact (Aop A C n c m d l k w hn hc hm h gn gc gm g hl (by omega)).mono (fun e w' x => by unfold Agr; rw [if_neg (by rw [hl]; simp), if_neg hlt]; exact x)
 ·exact (Ag0 A C n c m d l k w hn hc hm h gn gc gm g hl).mono (fun e w' x => by unfold Agr; rw [if_pos hl]; exact x)
theorem Ad6 (x y r : Nat) (hx : x < 4294967296) (hy : y < 4294967296) (hr : r ≤ 1) :
  (((x : Int) - (y : Int) - (r : Int)) % 18446744073709551616) % 4294967296 = (((x + 4294967296 * 2 - y - r) % 4294967296 : Nat) : Int) ∧ (((x : Int) - (y : Int) - (r : Int)) % 18446744073709551616) / 9223372036854775808 = ((if x < y + r then 1 else 0 : Nat) : Int) := by
 constructor
 ·omega
 ·split <;> omega
theorem OwnW.low {B C : Nat} {l : List Nat} {v : Value} {w : World} (h : OwnW C l v w) (hB : B ≤ C) : OwnW B l v w :=
 ⟨h.1, h.2.imp id (fun ⟨g, cap, cur, e, h1, r⟩ => ⟨g, cap, cur, e, Nat.le_trans hB h1, r⟩)⟩
def Anx (l : List Nat) (n : Nat) (w : World) (e : Ending) (w' : World) : Prop := ∃ A c, e = .returned (.slice A n c) ∧ (n ≤ c ∧ RW w' w'.heap.size A l ∧ ∀ ad, A = some ad → w.heap.size ≤ ad.block) ∧ Below w.heap.size w w'
theorem OwnPost.toldN {l : List Nat} {n : Nat} {w : World} {e : Ending} {w' : World} (hw : Ws l) (h : OwnPost l w e w') (hn : l.length = n) : Anx l n w e w' := by
 obtain ⟨v, rfl, ho, hb⟩ := h
 obtain ⟨A, c, hv, hc, hr⟩ := ho.sl hw
 subst hv
 refine ⟨A, c, by rw [hn], ⟨by omega, hr, fun ad had => ?_⟩, hb⟩
 subst had
 rcases ho.2 with ⟨e, _⟩ | ⟨g, cap, cur, e, hB, _⟩
 ·cases e
 ·cases e; exact hB
theorem RW.other {w : World} {B g j : Nat} {A : Option Addr} {l : List Nat} (h : RW w B A l) (hA : ∀ ad, A = some ad → g < ad.block) (v : Value) : RW (w.setCell ⟨g, j, none⟩ v) B A l := ⟨h.1, fun hl => by
 obtain ⟨b, off, e, hb, hc⟩ := h.2 hl
 have hg : g < b := hA _ e
 refine ⟨b, off, e, hb, fun k u hu => ?_⟩
 rw [← hc k u hu]
 have := Below.heap_setCell w ⟨g, j, none⟩ v b (by simp; omega)
 simp [World.cell?, this]⟩
theorem Aib (A C : Option Addr) (n c m d : Nat) (l k : List Nat) (w : World) (hn : l.length = n) (hm : n ≤ 35184372087808) (h : RW w w.heap.size A l)
  (gn : k.length = m) (gm : m ≤ n) (g : RW w w.heap.size C k) (hle : val k ≤ val l) :
  Cp 209 #[.slice A n c, .slice C m d] w (OwnPost (wds (val l - val k)) w) := by
 obtain ⟨i0, hi, hz0, hz1, hz2⟩ := info_parts Ef
 have C1 := Lh (fun W (hb : Below w.heap.size w W) i => Ap A n c i l w.heap.size W hn (by omega) (h.below hb))
 have C2 := Lh (fun W (hb : Below w.heap.size w W) i => Ap C m d i k w.heap.size W gn (by omega) (g.below hb))
 have HL := Lh h.1
 have HK := Lh g.1
 have HN := Lh hn
 have HM := Lh gn
 have HLE := Lh hle
 have HMN := Lh gm
 have hn1 : (n : Int) ≤ 35184372087808 := by omega
 clear hn hm h gn gm g hle
 go_enter Tryz.func209, Tryz.ntmps209
 go_wp2
 go_loopw [5, 6, 7] (fun v cv i wr => ∃ (q : Nat) (S : List Nat) (r : Nat), i = .int .i64 q ∧ cv = .int .u64 (r : Nat) ∧ q ≤ n ∧ Hid (OwnW w.heap.size S v wr) ∧ Hid (SubT l k q S r) ∧ Hid (S.length = q) ∧ Below w.heap.size w wr) (fun _ _ i _ => n - (intOf i).toNat)
 case atStart => exact ⟨0, [], 0, rfl, rfl, Nat.zero_le _, Lh (OwnW.nil _ _), Lh (SubT.start l k [] Ws.nil), Lh rfl, Below.refl _ _⟩
 case round =>
  obtain ⟨q, S, r, rfl, rfl, hq, HO, HT, HSL, hbw⟩ := hrel
  by_cases hlt : q < n
  ·have hx := HL.out.getD q
   have hy := HK.out.getD q
   have hr := HT.out.low
   have hsl : S.length = q := HSL.out
   have D1 := Lh (C1.out wr hbw q)
   have D2 := Lh (C2.out wr hbw q)
   obtain ⟨e1, e2⟩ := Ad6 (l.getD q 0) (k.getD q 0) r hx hy hr
   obtain ⟨t, ht⟩ : ∃ t, Xn l k q r = t := ⟨_, rfl⟩
   obtain ⟨r2, hr2⟩ : ∃ r2, Abr l k q r = r2 := ⟨_, rfl⟩
   have htl : t < 4294967296 := by rw [← ht]; unfold Xn; omega
   rw [show (l.getD q 0 + 4294967296 * 2 - k.getD q 0 - r) % 4294967296 = t from ht] at e1
   rw [show (if l.getD q 0 < k.getD q 0 + r then 1 else 0) = r2 from hr2] at e2
   have HNX := Lh (show SubT l k (q + 1) (S ++ [t]) r2 by
    rw [← hr2]
    refine HT.out.next HL.out HK.out (HT.out.ws.append (Ws.cons htl Ws.nil)) ?_ ?_
    ·rw [List.take_append_of_le_length (by omega)]
    ·rw [ht, List.getD_eq_getElem?_getD, List.getElem?_append_right (by omega), hsl]; simp)
   obtain ⟨x, hxe⟩ : ∃ x, l.getD q 0 = x := ⟨_, rfl⟩
   obtain ⟨y, hye⟩ : ∃ y, k.getD q 0 = y := ⟨_, rfl⟩
   rw [hxe] at D1 hx e1 e2
   rw [hye] at D2 hy e1 e2
   obtain ⟨z, hz⟩ : ∃ z : Int, ((x : Int) - (y : Int) - (r : Int)) % 18446744073709551616 = z := ⟨_, rfl⟩
   rw [hz] at e1 e2
   have hz2' : IntKind.u64.wrap (IntKind.u64.wrap ((x : Int) - (y : Int)) - (r : Int)) = z := by rw [IntKind.wrap_u64, IntKind.wrap_u64]; omega
   have HSL2 := Lh (show (S.length + 1) * 4 ≤ 140737488355328 ∧ S.length + 1 ≤ maxLen by unfold maxLen; omega)
   have HSL3 := Lh (show (S ++ [t]).length = q + 1 by rw [List.length_append, hsl]; rfl)
   have hq1 : (q : Int) < (n : Int) := by omega
   have hzb : 0 ≤ z := by omega
   clear hx hy hr ht hr2 htl hxe hye hsl hz
   go_wp2_with fail
   refine D1.out.mono ?_
   rintro e w1 ⟨rfl, rfl⟩
   go_wp2_with fail
   refine D2.out.mono ?_
   rintro e w1 ⟨rfl, rfl⟩
   go_wp2_with (at_builtin; refine wpList_append_own _ rfl _ _ 121 rfl w.heap.size 129 i0 (.int .u32 0) 1 4 Tryz.underlying121 hi hz0 hz1 hz2 rfl (by decide) _ _ _ rfl (World.ownsRow.alloc (w := wr) HO.out _) ⟨wr.heap.size, 0, none⟩ 1 1 [.int .u32 (t : Nat)] rfl rfl ?c1 ?c2 ?c3 ?c4 ?c5 ?_)
   case c1 => exact (cell_one_new _ _ _)
   case c2 => simp [Value.oneCell']
   case c3 => exact HSL2.out.2
   case c4 => exact HSL2.out.1
   case c5 => have := hbw.size; simp; omega
   intro v' w2 hown hg _
   have HO2 := Lh (OwnW.snoc hown)
   have hbb : Below w.heap.size w w2 := (hbw.alloc hbw.size _).grown hg (by have := hbw.size; simp; omega) (fun j hj => (World.ownsRow.lt HO.out j hj).1)
   clear hown hg
   go_wp2
   go_roundw
   case rel => exact ⟨q + 1, _, r2, by go_num, rfl, by omega, HO2, HNX, HSL3, hbb⟩
   case measure => simp [intOf]; omega
  ·have hqn : q = n := by omega
   have hsl : S.length = n := by rw [← hqn]; exact HSL.out
   have hv := (hqn ▸ HT.out : SubT l k n S r).whole (by rw [HN.out]; exact Nat.le_refl _) (by rw [HM.out]; exact HMN.out) hsl HLE.out
   have HE2 := Lh (show nrm S = wds (val l - val k) by rw [Bh HT.out.ws, hv])
   have hq1 : ¬ (q : Int) < (n : Int) := by omega
   have ho := HO.out
   obtain ⟨A2, c2, hv2, hcc, hr2⟩ := ho.sl HT.out.ws
   rw [hsl] at hv2 hcc
   have C3 := Lh (Bo A2 n c2 S wr.heap.size wr hsl hcc (by omega) hr2)
   clear ho hr2 hcc hsl hqn hv
   subst hv2
   go_wp2_with fail
   refine C3.out.mono ?_
   rintro e w3 ⟨v3, rfl, ho3, hb3⟩
   rw [HE2.out] at ho3
   have HO3 := Lh (ho3.low hbw.size)
   clear ho3 C3
   go_wp2
   go_ret
   exact ⟨_, rfl, HO3.out, Aa hbw hb3⟩
theorem Aj3 {v u : Nat} (h : u ≤ v) (hv : Am v = false) : Am u = false := by
 unfold Am at hv ⊢
 have h1 := of_decide_eq_false hv
 have h2 := Bi (n := u) (k := (wds v).length) (Nat.lt_of_le_of_lt h (Fx v))
 exact decide_eq_false (by omega)
theorem Xd {v u : Nat} (h : u ≤ v) : (wds u).length ≤ (wds v).length := Bi (Nat.lt_of_le_of_lt h (Fx v))
structure UpT (o : Nat) (a : List Nat) (s i : Nat) (S : List Nat) : Prop where
 len : S.length = o + i
 ws : Ws S
 sum : val S + 4294967296 ^ (o + i) * E5 a s i = 4294967296 ^ o * (2 ^ s * val (a.take i))
theorem UpT.start (o : Nat) (a : List Nat) (s : Nat) : UpT o a s 0 (List.replicate o 0) := ⟨List.length_replicate, Ws.zeros _, by simp [val, E5, Ha]⟩
theorem Rr (a : List Nat) (s i : Nat) (hs : s ≤ 32) : E5 a s (i + 1) = a.getD i 0 * 2 ^ s / 4294967296 := by
 unfold E5; rw [if_neg (by omega), Nat.add_sub_cancel, L8 _ s hs]
theorem UpT.next {o : Nat} {a : List Nat} {s i : Nat} {S : List Nat} (h : UpT o a s i S) (ha : Ws a) (hs : s ≤ 32) : UpT o a s (i + 1) (S ++ [Jv a s i]) := by
 obtain ⟨h1, h2, h3⟩ := h
 refine ⟨by rw [List.length_append, h1]; rfl, h2.append (Ws.cons (Acv ha s i hs) Ws.nil), ?_⟩
 rw [Gd, h1, Av, Rr a s i hs]
 have e := Gc (4294967296 ^ (o + i)) (a.getD i 0 * 2 ^ s) (val S + 4294967296 ^ (o + i) * E5 a s i) (4294967296 ^ o * (2 ^ s * (val (a.take i) + 4294967296 ^ i * a.getD i 0))) (by rw [h3, Nat.pow_add]; grind)
 rw [show o + (i + 1) = o + i + 1 by omega, Nat.pow_succ]
 unfold Jv
 grind
theorem UpT.whole {o : Nat} {a : List Nat} {s : Nat} {S : List Nat} (h : UpT o a s a.length S) : val (S ++ [E5 a s a.length]) = val a * 2 ^ (32 * o + s) := by
 have h3 := h.sum
 rw [List.take_of_length_le (Nat.le_refl _)] at h3
 rw [Gd, h.len, h3, Ke, Nat.pow_add]
 grind
theorem Ace {a : List Nat} (ha : Ws a) (s i : Nat) (hs : s ≤ 32) : E5 a s i < 2 ^ s := by
 unfold E5
 split
 ·exact Nat.two_pow_pos s
 ·exact Jt _ s hs (ha.getD _)
theorem Al7 (x k s : Nat) (hx : x < 4294967296) (hs : s < 32) (hk : k < 2 ^ s) : x * 2 ^ s < 18446744073709551616 ∧ k < 4294967296 ∧ (x * 2 ^ s ||| k) = x * 2 ^ s + k ∧ (x * 2 ^ s + k) % 4294967296 = x * 2 ^ s % 4294967296 + k ∧ (x * 2 ^ s + k) / 4294967296 = x * 2 ^ s / 4294967296 ∧ x * 2 ^ s + k < 18446744073709551616 := by
 have h1 : x * 2 ^ s ≤ x * 2 ^ 32 := Nat.mul_le_mul_left _ (Nat.pow_le_pow_right (by omega) (by omega))
 have h2 : 2 ^ s ≤ 2 ^ 31 := Nat.pow_le_pow_right (by omega) (by omega)
 have h3 : x * 2 ^ s ||| k = x * 2 ^ s + k := by rw [Nat.mul_comm, Nat.two_pow_add_eq_or_of_lt hk]
 have h4 := Fm x s (by omega)
 have h5 : 2 ^ s * (x % 2 ^ (32 - s) + 1) ≤ 2 ^ s * 2 ^ (32 - s) := Nat.mul_le_mul_left _ (Nat.mod_lt _ (Nat.two_pow_pos _))
 rw [Ec (by omega : s ≤ 32), Nat.mul_add, Nat.mul_one, ← h4] at h5
 generalize 2 ^ s = P at *
 generalize x * P = y at *
 refine ⟨by omega, by omega, h3, by omega, by omega, by omega⟩
theorem Ang (A : Option Addr) (n c : Nat) (p : Int) (l : List Nat) (w : World) (hn : l.length = n) (hc : n ≤ c) (hm : n ≤ 4096) (h : RW w w.heap.size A l) (h0 : nrm l = []) :
  Cp 157 #[.slice A n c, .int .i64 p] w (SlPost [] w) := by
 have c1 := (Bo A n c l w.heap.size w hn hc (by omega) h).mono (fun e w' x => SlPost.of h.1.nrm x)
 rw [h0] at c1
 clear hn hc hm h h0
 go_enter Tryz.func157, Tryz.ntmps157
 go_wp2_with fail
 refine c1.mono ?_
 rintro e w1 ⟨v1, rfl, ⟨A1, c1, rfl, _, _⟩, b1⟩
 go_wp2
 go_ret
 exact ⟨_, rfl, Sl.nil _ _ _, b1⟩
theorem Anm (A : Option Addr) (n c p o s : Nat) (l : List Nat) (w : World) (hn : l.length = n) (hc : n ≤ c) (hm : n ≤ 4096) (h : RW w w.heap.size A l) (h0 : nrm l ≠ []) (hpo : p = 32 * o + s) (hs : s < 32) (ho : o ≤ 1024) :
  Cp 157 #[.slice A n c, .int .i64 p] w (SlPost (wds (val l * 2 ^ p)) w) := by
 obtain ⟨i0, hi, hz0, hz1, hz2⟩ := info_parts Ef
 have c1 := (Bo A n c l w.heap.size w hn hc (by omega) h).mono (fun e w' x => SlPost.of h.1.nrm x)
 have hpos : 0 < (nrm l).length := List.length_pos_iff.2 h0
 have hle := Ba l
 obtain ⟨N, hN⟩ : ∃ N, (nrm l).length = N := ⟨_, rfl⟩
 have HNN := Lh hN
 rw [hN] at hpos hle
 obtain ⟨b, off, rfl, hb, hcell⟩ := h.2 (by omega)
 have HCELL := Lh hcell
 have HA := Lh h
 have HN := Lh hn
 have HP := Lh hpo
 have HS := Lh hs
 have hN0 : ((N : Int) == 0) = false := by simp; omega
 have hN1 : (N : Int) ≤ 4096 := by omega
 have hn1 : (n : Int) ≤ 4096 := by omega
 have ho1 : (o : Int) ≤ 1024 := by omega
 have hs1 : (s : Int) < 32 := by omega
 have hs0 : (0 : Int) ≤ (s : Int) := by omega
 have e3 : (p : Int) / 32 = (o : Int) := by omega
 have e4 : (p : Int) % 32 = (s : Int) := by omega
 have p0 : (0 : Int) ≤ (p : Int) := by omega
 have HMK := Lh (fun W => run_make_row' (P := Tryz.prog) 121 129 (.int .u32 0) 4 Tryz.underlying121 Ef rfl .i64 .i64 o (by omega) (by omega) W)
 clear hn hc hm h h0 hN hpos hle hcell hpo hs
 go_enter Tryz.func157, Tryz.ntmps157
 go_wp2_with fail
 refine c1.mono ?_
 rintro e w1 ⟨v1, rfl, ⟨A1, d1, rfl, _, _⟩, b1⟩
 rw [HNN.out]
 have hmk := HMK.out w1
 have HROW := Lh (Row.made w1 o)
 have HB1 := Lh (show Below w.heap.size w (w1.alloc (.cells (madeCells #[.int .u32 0] o) 129)) from b1.alloc b1.size _)
 have HOWN := Lh (show OwnW w.heap.size (List.replicate o 0) (.slice (some ⟨w1.heap.size, 0, none⟩) o o) (w1.alloc (.cells (madeCells #[.int .u32 0] o) 129)) from by
  have := HROW.out.own b1.size (by rw [List.length_replicate]; unfold maxLen; omega)
  rw [List.length_replicate] at this; exact this)
 have HSTART := Lh (UpT.start o l s)
 clear b1 c1 ho
 go_wp2
 clear hmk
 go_loopw [5, 6, 7] (fun v cv i wr => ∃ (q : Nat) (S : List Nat), i = .int .i64 q ∧ cv = .int .u64 (E5 l s q : Nat) ∧ q ≤ n ∧ Hid (OwnW w.heap.size S v wr) ∧ Hid (UpT o l s q S) ∧ Below w.heap.size w wr) (fun _ _ i _ => n - (intOf i).toNat)
 case atStart => exact ⟨0, _, rfl, by simp [E5], Nat.zero_le _, HOWN, HSTART, HB1.out⟩
 case round =>
  obtain ⟨q, S, rfl, rfl, hq, HO, HT, hbw⟩ := hrel
  have HSL := Lh (show (S.length + 1) * 4 ≤ 140737488355328 ∧ S.length + 1 ≤ maxLen ∧ S.length + 1 ≤ 35184372088832 by have := HT.out.len; unfold maxLen; omega)
  by_cases hlt : q < n
  ·have hcl : wr.cell? ⟨b, off + q, none⟩ = some (.int .u32 (l.getD q 0 : Nat)) := by
    rw [hbw.cell (p := ⟨b, off + q, none⟩) hb]; exact HCELL.out q _ (getD_some (by rw [HN.out]; exact hlt))
   have HNX := Lh (HT.out.next HA.out.1 (by have := HS.out; omega))
   have HNC := Lh (Rr l s q (by have := HS.out; omega))
   have hkl := Ace HA.out.1 s q (by have := HS.out; omega)
   have hxl := HA.out.1.getD q
   have HW := Lh (show Jv l s q = l.getD q 0 * 2 ^ s % 4294967296 + E5 l s q from rfl)
   obtain ⟨x, hx⟩ : ∃ x, l.getD q 0 = x := ⟨_, rfl⟩
   obtain ⟨k, hk⟩ : ∃ k, E5 l s q = k := ⟨_, rfl⟩
   rw [hx] at hcl hxl HW HNC
   rw [hk] at hkl HW ⊢
   have HU := Lh (Al7 x k s hxl HS.out hkl)
   have hqq : (q : Int) < (n : Int) := by omega
   obtain ⟨y, hy⟩ : ∃ y, x * 2 ^ s = y := ⟨_, rfl⟩
   have k1 : IntKind.u64.wrap (x : Int) = (x : Int) := IntWalk.u64_in _ (by omega)
   have k2 : IntKind.u64.wrap ((x : Int) * 2 ^ s) = (y : Int) := by
    have e : ((x : Int) * 2 ^ s) = ((x * 2 ^ s : Nat) : Int) := by rw [Int.natCast_mul, Int.natCast_pow]; rfl
    rw [e, hy]
    exact IntWalk.u64_in _ (by have := HU.out.1; omega)
   obtain ⟨u1, u2, u3, u4, u5, u6⟩ := HU.out
   rw [hy] at u1 u3 u4 u5 u6 HW HNC
   obtain ⟨t, ht⟩ : ∃ t, y + k = t := ⟨_, rfl⟩
   rw [ht] at u3 u4 u5 u6
   have k3 : bits BinOp.or IntKind.u64 (y : Int) (k : Int) = (t : Int) := by rw [E3 y k u1 (by omega), u3]
   have ew : Jv l s q = t % 4294967296 := by rw [HW.out, u4]
   have ec : E5 l s (q + 1) = t / 4294967296 := by rw [HNC.out, u5]
   rw [ew] at HNX
   have HEC := Lh ec
   clear hx hk hkl hxl hlt hq u1 u2 u3 u4 u5 u6 ew ec ht hy HU HW HNC
   go_wp2_with (at_builtin; refine wpList_append_own _ rfl _ _ 121 rfl w.heap.size 129 i0 (.int .u32 0) 1 4 Tryz.underlying121 hi hz0 hz1 hz2 rfl (by decide) _ _ _ rfl (World.ownsRow.alloc (w := wr) HO.out _) ⟨wr.heap.size, 0, none⟩ 1 1 [.int .u32 ((t % 4294967296 : Nat) : Int)] rfl rfl ?c1 ?c2 ?c3 ?c4 ?c5 ?_)
   case c1 => exact (cell_one_new _ _ _)
   case c2 => simp [Value.oneCell']
   case c3 => exact HSL.out.2.1
   case c4 => exact HSL.out.1
   case c5 => have := hbw.size; simp; omega
   intro v' w2 hown hg _
   have HO2 := Lh (OwnW.snoc hown)
   have hbb : Below w.heap.size w w2 := (hbw.alloc hbw.size _).grown hg (by have := hbw.size; simp; omega) (fun j hj => (World.ownsRow.lt HO.out j hj).1)
   clear hown hg
   go_wp2
   go_roundw
   case rel => exact ⟨q + 1, _, by go_num, by rw [HEC.out]; go_num, by omega, HO2, HNX, hbb⟩
   case measure => simp [intOf]; omega
  ·have hqn : q = n := by omega
   subst hqn
   have HT2 := Lh (show UpT o l s l.length S by rw [HN.out]; exact HT.out)
   have hk2 := Ace HA.out.1 s l.length (by have := HS.out; omega)
   have HV := HT2.out.whole
   have hlen := HT2.out.len
   rw [HN.out] at hk2 HV hlen
   obtain ⟨r, hr⟩ : ∃ r, E5 l s q = r := ⟨_, rfl⟩
   rw [hr] at hk2 HV ⊢
   have hrl : r < 4294967296 := Nat.lt_of_lt_of_le hk2 (show 2 ^ s ≤ 2 ^ 32 from Nat.pow_le_pow_right (by omega) (by have := HS.out; omega))
   have k1 : IntKind.u32.wrap (r : Int) = (r : Int) := IntWalk.u32_in _ (by omega)
   have HE1 := Lh (HT2.out.ws.append (Ws.cons hrl Ws.nil))
   have HE2 := Lh (show nrm (S ++ [r]) = wds (val l * 2 ^ p) by rw [Bh HE1.out, HV, HP.out])
   clear hk2 HV hlen hr hrl hlt hq
   go_wp2_with (at_builtin; refine wpList_append_own _ rfl _ _ 121 rfl w.heap.size 129 i0 (.int .u32 0) 1 4 Tryz.underlying121 hi hz0 hz1 hz2 rfl (by decide) _ _ _ rfl (World.ownsRow.alloc (w := wr) HO.out _) ⟨wr.heap.size, 0, none⟩ 1 1 [.int .u32 (r : Nat)] rfl rfl ?c1 ?c2 ?c3 ?c4 ?c5 ?_)
   case c1 => exact (cell_one_new _ _ _)
   case c2 => simp [Value.oneCell']
   case c3 => exact HSL.out.2.1
   case c4 => exact HSL.out.1
   case c5 => have := hbw.size; simp; omega
   intro v' w2 hown hg _
   have ho := OwnW.snoc hown
   have hbb : Below w.heap.size w w2 := (hbw.alloc hbw.size _).grown hg (by have := hbw.size; simp; omega) (fun j hj => (World.ownsRow.lt HO.out j hj).1)
   obtain ⟨A2, c2, hv, hcc, hr2⟩ := ho.sl HE1.out
   obtain ⟨N2, hN2⟩ : ∃ N2, (S ++ [r]).length = N2 := ⟨_, rfl⟩
   have C3 := Lh (Bo A2 N2 c2 (S ++ [r]) w2.heap.size w2 hN2 (by rw [← hN2]; exact hcc) (by rw [← hN2, List.length_append]; exact HSL.out.2.2) hr2)
   rw [hN2] at hv
   clear hown hg ho hr2 hcc hN2
   subst hv
   go_wp2_with fail
   refine C3.out.mono ?_
   rintro e w3 ⟨v3, rfl, ho3, hb3⟩
   rw [HE2.out] at ho3
   have HO3 := Lh (ho3.sl (Ax _))
   clear ho3 C3
   go_wp2
   go_ret
   exact ⟨_, rfl, HO3.out, Aa hbb hb3⟩
theorem Ahz (A : Option Addr) (n c p : Nat) (l : List Nat) (w : World) (hn : l.length = n) (hc : n ≤ c) (hm : n ≤ 4096) (h : RW w w.heap.size A l) (hp : p ≤ 32768) :
  Cp 157 #[.slice A n c, .int .i64 p] w (SlPost (wds (val l * 2 ^ p)) w) := by
 by_cases h0 : nrm l = []
 ·have := Ang A n c p l w hn hc hm h h0
  rw [← Aq l, h0, show val [] = 0 from rfl, Nat.zero_mul]
  exact this
 ·exact Anm A n c p (p / 32) (p % 32) l w hn hc hm h h0 (by omega) (by omega) (by omega)
theorem Yr {l : List Nat} (h : Ws l) : btl l = 0 ↔ nrm l = [] := by
 constructor
 ·intro e
  rcases Classical.em (nrm l = []) with h0 | h0
  ·exact h0
  ·have := (Bp h h0).2.2; omega
 ·intro e; unfold btl; rw [if_pos e]
theorem Afc {v : Nat} {p : Int} {w : World} (h : Am v = true) : Yv v p w = Do 3 w := by funext e w'; unfold Yv; rw [if_pos h]
theorem Ai2 {v : Nat} {p : Int} {w : World} (h : Am v = false) (hp : p < 0) : Yv v p w = Do 1 w := by funext e w'; unfold Yv; rw [if_neg (by rw [h]; simp), if_pos hp]
theorem Alo {v q : Nat} {w : World} (h : Am v = false) : Yv v (q : Int) w = NatPost (v * 2 ^ q) w := by funext e w'; unfold Yv; rw [if_neg (by rw [h]; simp), if_neg (by omega), Int.toNat_natCast]
theorem Aim (A : Option Addr) (n c : Nat) (p : Int) (l : List Nat) (w : World) (hn : l.length = n) (hc : n ≤ c) (hm : n ≤ 35184372088832) (h : RW w w.heap.size A l) :
  Cp 201 #[.slice A n c, .int .i64 p] w (Yv (val l) p w) := by
 cases hl : Am (val l)
 ·by_cases hp : p < 0
  ·rw [Ai2 hl hp]
   exact Akw A n c p l w hn hc hm h hl hp
  ·obtain ⟨q, rfl⟩ : ∃ q : Nat, p = (q : Int) := ⟨p.toNat, by omega⟩
   rw [Alo hl]
   by_cases h0 : nrm l = []
   ·have := Af5 A n c q l w hn hc hm h (by omega) h0
    rw [← Aq l, h0, show val [] = 0 from rfl, Nat.zero_mul]
    exact this
   ·have h1 : nrm (nrm l) ≠ [] := by rw [Fb]; exact h0
    by_cases hf : btl (nrm l) + q ≤ 32768
    ·exact Ami A n c q (q / 32) (q % 32) l w hn hc hm h hl h0 hf (by omega) (by omega)
    ·refine (Ai1 A n c q l w hn hc hm h hl (by omega) h0 (by omega)).mono fun e w' x => ?_
     obtain ⟨rfl, hb⟩ := x
     have := Ah0 (n := q) h.1.nrm h1 (by omega)
     rw [Aq] at this
     exact NatPost.long this hb
 ·rw [Afc hl]
  exact Agn A n c p l w hn hc hm h hl
theorem Ain (b e n : Nat) (h : e ≤ n) (hl : Am (b ^ e) = true) : Am (b ^ n) = true := by
 cases hn : Am (b ^ n)
 ·rcases Nat.eq_zero_or_pos b with h0 | h0
  ·subst h0
   rcases Nat.eq_zero_or_pos e with h1 | h1
   ·subst h1
    have : Am (0 ^ 0) = false := Es (by simp)
    rw [this] at hl; cases hl
   ·rw [Nat.zero_pow h1, Es (by omega)] at hl; cases hl
  ·have := Aj3 (Nat.pow_le_pow_right h0 h) hn
   rw [this] at hl; cases hl
 ·rfl
theorem Aj7 (b n q : Nat) : b ^ (n / 2 ^ (q + 1)) * b ^ (n / 2 ^ (q + 1)) * b ^ (n / 2 ^ q % 2) = b ^ (n / 2 ^ q) := by
 rw [← Nat.pow_add, ← Nat.pow_add]
 congr 1
 rw [Nat.pow_succ, ← Nat.div_div_eq_div_mul]
 omega
theorem Aol (b n q : Nat) : b ^ (n / 2 ^ (q + 1)) * b ^ (n / 2 ^ (q + 1)) = b ^ (n / 2 ^ (q + 1) + n / 2 ^ (q + 1)) := (Nat.pow_add ..).symm
theorem Apo (n q : Nat) : n / 2 ^ (q + 1) + n / 2 ^ (q + 1) ≤ n := by
 have h1 : n / 2 ^ (q + 1) * 2 ^ (q + 1) ≤ n := Nat.div_mul_le_self n _
 have h2 : 2 ≤ 2 ^ (q + 1) := by rw [Nat.pow_succ]; have := Nat.two_pow_pos q; omega
 have h3 : n / 2 ^ (q + 1) * 2 ≤ n / 2 ^ (q + 1) * 2 ^ (q + 1) := Nat.mul_le_mul_left _ h2
 omega
end
section
def Ac (r : Nat) : Nat := if r < 4503599627370496 then r else (4503599627370496 + r % 4503599627370496) * 2 ^ (r / 4503599627370496 - 1)
theorem Bz {r s : Nat} (h : r < s) : Ac r < Ac s := by
 unfold Ac
 by_cases h1 : r < 4503599627370496
 ·rw [if_pos h1]
  by_cases h2 : s < 4503599627370496
  ·rw [if_pos h2]; exact h
  ·rw [if_neg h2]
   have h3 : (4503599627370496 + s % 4503599627370496) * 1 ≤ (4503599627370496 + s % 4503599627370496) * 2 ^ (s / 4503599627370496 - 1) := Nat.mul_le_mul_left _ (Nat.two_pow_pos _)
   omega
 ·have h2 : ¬ s < 4503599627370496 := by omega
  rw [if_neg h1, if_neg h2]
  have e1 := Nat.div_add_mod r 4503599627370496
  have e2 := Nat.div_add_mod s 4503599627370496
  have l1 : r % 4503599627370496 < 4503599627370496 := Nat.mod_lt _ (by omega)
  have l2 : s % 4503599627370496 < 4503599627370496 := Nat.mod_lt _ (by omega)
  have q1 : 1 ≤ r / 4503599627370496 := by omega
  have q3 : r / 4503599627370496 ≤ s / 4503599627370496 := by omega
  generalize r / 4503599627370496 = q at *
  generalize s / 4503599627370496 = p at *
  generalize r % 4503599627370496 = t at *
  generalize s % 4503599627370496 = u at *
  obtain ⟨a, rfl⟩ : ∃ a, q = a + 1 := ⟨q - 1, by omega⟩
  rw [Nat.add_sub_cancel]
  rcases Nat.eq_or_lt_of_le q3 with h3 | h3
  ·rw [← h3, Nat.add_sub_cancel]
   have h4 : t < u := by omega
   exact Nat.mul_lt_mul_of_pos_right (by omega) (Nat.two_pow_pos _)
  ·obtain ⟨b, rfl⟩ : ∃ b, p = a + 1 + b + 1 := ⟨p - a - 2, by omega⟩
   rw [Nat.add_sub_cancel]
   have h5 : (4503599627370496 + t) * 2 ^ a < (2 * 4503599627370496) * 2 ^ a := Nat.mul_lt_mul_of_pos_right (by omega) (Nat.two_pow_pos _)
   have h6 : 2 * 4503599627370496 * 2 ^ a = 4503599627370496 * 2 ^ (a + 1) := by rw [Nat.pow_succ]; grind
   have h7 : 4503599627370496 * 2 ^ (a + 1) ≤ (4503599627370496 + u) * 2 ^ (a + 1 + b) := Nat.mul_le_mul (by omega) (Nat.pow_le_pow_right (by omega) (by omega))
   omega
theorem Fi {r s : Nat} : Ac r < Ac s ↔ r < s := by
 refine ⟨fun h => ?_, Bz⟩
 rcases Nat.lt_or_ge r s with h1 | h1
 ·exact h1
 ·rcases Nat.eq_or_lt_of_le h1 with h2 | h2
  ·rw [h2] at h; omega
  ·have := Bz h2; omega
theorem H6 {r s : Nat} (h : Ac r = Ac s) : r = s := by
 rcases Nat.lt_trichotomy r s with h1 | h1 | h1
 ·have := Bz h1; omega
 ·exact h1
 ·have := Bz h1; omega
def Bc (w : Nat) : Nat := w % 9223372036854775808
def Cc (w : Nat) : Bool := w / 9223372036854775808 % 2 == 1
theorem Ib {w : Nat} (h : Bc w < 9218868437227405312) : ∃ m e, Ieee.double.read w = .number (Cc w) m e ∧ -1074 ≤ e ∧ Ac (Bc w) = m * 2 ^ (e + 1074).toNat := by
 have e1 : Ieee.double.signWeight = 9223372036854775808 := by decide
 have e2 : Ieee.double.binade = 4503599627370496 := by decide
 have e3 : Ieee.double.infRung = 9218868437227405312 := by decide
 have e4 : Ieee.double.leastPlace = -1074 := by decide
 unfold Bc at h ⊢
 unfold Ieee.Format.read
 simp only [e1, e2, e3, e4]
 unfold Ac Cc
 by_cases h1 : w % 9223372036854775808 < 4503599627370496
 ·rw [if_pos h1, if_pos h1]
  exact ⟨_, _, rfl, by omega, by simp⟩
 ·rw [if_neg h1, if_neg h1, if_pos h]
  refine ⟨_, _, rfl, by omega, ?_⟩
  congr 2
  omega
theorem J0 {w : Nat} (h : Bc w = 9218868437227405312) : Ieee.double.read w = .infinity (Cc w) := by
 have e1 : Ieee.double.signWeight = 9223372036854775808 := by decide
 have e2 : Ieee.double.binade = 4503599627370496 := by decide
 have e3 : Ieee.double.infRung = 9218868437227405312 := by decide
 unfold Bc at h
 unfold Ieee.Format.read Cc
 simp only [e1, e2, e3]
 rw [if_neg (by omega), if_neg (by omega), if_pos h]
theorem Wf {w : Nat} (h : 9218868437227405312 < Bc w) : ∃ t, Ieee.double.read w = .nan (Cc w) t := by
 have e1 : Ieee.double.signWeight = 9223372036854775808 := by decide
 have e2 : Ieee.double.binade = 4503599627370496 := by decide
 have e3 : Ieee.double.infRung = 9218868437227405312 := by decide
 unfold Bc at h
 unfold Ieee.Format.read Cc
 simp only [e1, e2, e3]
 rw [if_neg (by omega), if_neg (by omega), if_neg (by omega)]
 exact ⟨_, rfl⟩
def F0 (w : Nat) : Int := if Cc w = true then -(Bc w : Nat) else (Bc w : Nat)
theorem Io (s : Bool) (m k : Nat) : Ieee.signed s m k = if s = true then -((m * 2 ^ k : Nat) : Int) else ((m * 2 ^ k : Nat) : Int) := by
 unfold Ieee.signed
 rw [Nat.shiftLeft_eq]
theorem Ad0 {a b : Int} {c : Nat} (hc : 0 < c) : compare (a * c) (b * c) = compare a b := by
 have hc' : (0 : Int) < (c : Int) := by omega
 have h1 : a * c < b * c ↔ a < b := Int.mul_lt_mul_right hc'
 have h2 : a * c = b * c ↔ a = b := ⟨fun h => Int.eq_of_mul_eq_mul_right (by omega) h, fun h => by rw [h]⟩
 simp only [compare, compareOfLessAndEq, h1, h2]
theorem Ab1 {s t : Bool} {r q : Nat} : compare (if s = true then -((Ac r : Nat) : Int) else ((Ac r : Nat) : Int)) (if t = true then -((Ac q : Nat) : Int) else ((Ac q : Nat) : Int)) = compare (if s = true then -((r : Nat) : Int) else (r : Int)) (if t = true then -((q : Nat) : Int) else (q : Int)) := by
 have z : Ac 0 = 0 := rfl
 have p : ∀ x, 0 < Ac x ↔ 0 < x := fun x => by have := @Fi 0 x; rw [z] at this; exact this
 have p1 := p r
 have p2 := p q
 have l1 := @Fi r q
 have l2 := @Fi q r
 have l3 : Ac r = Ac q ↔ r = q := ⟨H6, fun h => by rw [h]⟩
 generalize Ac r = R at *
 generalize Ac q = Q at *
 have key : ∀ a b c d : Int, (a < b ↔ c < d) → (a = b ↔ c = d) → compare a b = compare c d := by
  intro a b c d h1 h2
  simp only [compare, compareOfLessAndEq, h1, h2]
 cases s <;> cases t <;> simp only [if_true, Bool.false_eq_true, if_false] <;> refine key _ _ _ _ ?_ ?_ <;> omega
theorem Fk {x y : Nat} (hx : Bc x ≤ 9218868437227405312) (hy : Bc y ≤ 9218868437227405312) : Ieee.double.order x y = some (compare (F0 x) (F0 y)) := by
 unfold Ieee.Format.order F0
 rcases Nat.eq_or_lt_of_le hx with hx | hx <;> rcases Nat.eq_or_lt_of_le hy with hy | hy
 ·rw [J0 hx, J0 hy, hx, hy]
  unfold Ieee.Datum.order
  cases Cc x <;> cases Cc y <;> rfl
 ·obtain ⟨m, e, h1, _, _⟩ := Ib hy
  rw [J0 hx, h1, hx]
  unfold Ieee.Datum.order
  simp only
  congr 1
  cases Cc x <;> cases Cc y <;> simp only [if_true, Bool.false_eq_true, if_false] <;> simp only [compare, compareOfLessAndEq] <;> (repeat' split) <;> first | rfl | omega
 ·obtain ⟨m, e, h1, _, _⟩ := Ib hx
  rw [J0 hy, h1, hy]
  unfold Ieee.Datum.order
  simp only
  congr 1
  cases Cc x <;> cases Cc y <;> simp only [if_true, Bool.false_eq_true, if_false] <;> simp only [compare, compareOfLessAndEq] <;> (repeat' split) <;> first | rfl | omega
 ·obtain ⟨m, e, h1, e1, f1⟩ := Ib hx
  obtain ⟨n, d, h2, e2, f2⟩ := Ib hy
  rw [h1, h2]
  unfold Ieee.Datum.order
  simp only
  rw [← Ab1, f1, f2, Io, Io]
  congr 1
  obtain ⟨B, hB⟩ : ∃ B, min e d = B := ⟨_, rfl⟩
  rw [hB]
  obtain ⟨k, hk⟩ : ∃ k : Nat, (k : Int) = B + 1074 := ⟨(B + 1074).toNat, by omega⟩
  have ee : (e + 1074).toNat = (e - B).toNat + k := by omega
  have ed : (d + 1074).toNat = (d - B).toNat + k := by omega
  rw [ee, ed, Nat.pow_add, Nat.pow_add]
  rw [← Ad0 (c := 2 ^ k) (Nat.two_pow_pos k)]
  congr 1
  ·cases Cc x <;> simp <;> grind
  ·cases Cc y <;> simp <;> grind
theorem Gy {x y : Nat} (h : 9218868437227405312 < Bc x ∨ 9218868437227405312 < Bc y) : Ieee.double.order x y = none := by
 unfold Ieee.Format.order
 rcases h with h | h
 ·obtain ⟨t, h1⟩ := Wf h
  rw [h1]; rfl
 ·obtain ⟨t, h1⟩ := Wf h
  rw [h1]
  cases Ieee.double.read x <;> rfl
theorem Km {N L : Nat} (h1 : 2 ^ L ≤ N) (h2 : N < 2 ^ (L + 1)) : N.log2 = L := by
 have h0 : N ≠ 0 := by have := Nat.two_pow_pos L; omega
 have a1 := (Nat.le_log2 h0).2 h1
 have a2 := (Nat.log2_lt h0).2 h2
 omega
theorem Di (N : Nat) (h : 0 < N) : 2 ^ N.log2 ≤ N ∧ N < 2 ^ (N.log2 + 1) := ⟨(Nat.le_log2 (by omega)).1 (Nat.le_refl _), (Nat.log2_lt (by omega)).1 (Nat.lt_succ_self _)⟩
def evn (n d : Nat) : Nat := n / 2 ^ d + (decide (2 ^ d < 2 * (n % 2 ^ d)) || (decide (2 ^ d = 2 * (n % 2 ^ d)) && decide (n / 2 ^ d % 2 = 1))).toNat
theorem Ff (n d : Nat) (h : d ≤ n.log2 + 2) : Ieee.Toward.even.cut false n d = evn n d := by
 unfold Ieee.Toward.cut evn
 rw [Nat.min_eq_left h, Nat.one_shiftLeft]
 rfl
theorem Ep (m d : Nat) : evn (m * 2 ^ d) d = m := by
 unfold evn
 have := Nat.two_pow_pos d
 rw [Nat.mul_mod_left, Nat.mul_div_cancel _ this]
 rw [decide_eq_false (by omega), decide_eq_false (by omega)]
 rfl
def fl (N : Nat) : Nat := FloatKind.f64.nearest (N : Int)
theorem Kn (N : Nat) : fl N = Ieee.double.nearest false N 0 := by
 unfold fl FloatKind.nearest FloatKind.encode Ieee.Format.write
 have : decide ((N : Int) < 0) = false := decide_eq_false (by omega)
 simp only [this, Int.natAbs_natCast]
 rfl
theorem Ko (f : Ieee.Format) (r : Nat) : f.word false r = r := rfl
theorem Wh (N L k : Nat) (h1 : 2 ^ L ≤ N) (h2 : N < 2 ^ (L + 1)) (hL : L ≤ 52) : Ieee.double.nearest false (N * 2 ^ k) (-(k : Int)) = (L + 1022) * 4503599627370496 + N * 2 ^ (52 - L) := by
 have e2 : Ieee.double.binade = 4503599627370496 := by decide
 have e3 : Ieee.double.infRung = 9218868437227405312 := by decide
 have e4 : Ieee.double.leastPlace = -1074 := by decide
 have e5 : Ieee.double.fractionBits = 52 := rfl
 have hN := Nat.two_pow_pos L
 have hk := Nat.two_pow_pos k
 have hlog : (N * 2 ^ k).log2 = L + k := Km (by rw [Nat.pow_add]; exact Nat.mul_le_mul_right _ h1) (by rw [show L + k + 1 = (L + 1) + k by omega, Nat.pow_add 2 (L + 1) k]; exact Nat.mul_lt_mul_of_pos_right h2 hk)
 have h0 : N * 2 ^ k ≠ 0 := by
  have := Nat.mul_pos (show 0 < N by omega) hk
  omega
 unfold Ieee.Format.nearest
 rw [if_neg h0, e2, e3, e4, e5, hlog]
 have e6 : max (-(k : Int) + ((L + k : Nat) : Int) - (52 : Nat)) (-1074) = (L : Int) - 52 := by omega
 rw [e6]
 dsimp only
 have h3 : N * 2 ^ (52 - L) < 9007199254740992 := by
  have : N * 2 ^ (52 - L) < 2 ^ (L + 1) * 2 ^ (52 - L) := Nat.mul_lt_mul_of_pos_right h2 (Nat.two_pow_pos _)
  rw [← Nat.pow_add, show L + 1 + (52 - L) = 53 by omega] at this
  exact this
 have hcut : Ieee.Toward.even.cut false ((N * 2 ^ k) <<< (-(k : Int) - ((L : Int) - 52)).toNat) ((L : Int) - 52 - -(k : Int)).toNat = N * 2 ^ (52 - L) := by
  rcases Nat.lt_or_ge (52 - L) k with hc | hc
  ·have q1 : (-(k : Int) - ((L : Int) - 52)).toNat = 0 := by omega
   have q2 : ((L : Int) - 52 - -(k : Int)).toNat = k - (52 - L) := by omega
   rw [q1, q2, Nat.shiftLeft_zero, Ff _ _ (by rw [hlog]; omega)]
   rw [show N * 2 ^ k = N * 2 ^ (52 - L) * 2 ^ (k - (52 - L)) by rw [Nat.mul_assoc, ← Nat.pow_add]; congr 2; omega]
   exact Ep _ _
  ·have q1 : (-(k : Int) - ((L : Int) - 52)).toNat = 52 - L - k := by omega
   have q2 : ((L : Int) - 52 - -(k : Int)).toNat = 0 := by omega
   rw [q1, q2, Ff _ _ (Nat.zero_le _), Nat.shiftLeft_eq, Nat.mul_assoc, ← Nat.pow_add, show k + (52 - L - k) = 52 - L by omega]
   have := Ep (N * 2 ^ (52 - L)) 0
   rwa [Nat.pow_zero, Nat.mul_one] at this
 rw [hcut]
 have e7 : ((L : Int) - 52 - -1074).toNat = L + 1022 := by omega
 rw [e7, Nat.min_eq_left (by omega), Ko]
theorem O3 {N L : Nat} (h1 : 2 ^ L ≤ N) (h2 : N < 2 ^ (L + 1)) (hL : L ≤ 52) : fl N = (L + 1022) * 4503599627370496 + N * 2 ^ (52 - L) := by
 rw [Kn]
 have h := Wh N L 0 h1 h2 hL
 have e : -((0 : Nat) : Int) = 0 := rfl
 rw [Nat.pow_zero, Nat.mul_one, e] at h
 exact h
theorem Ni {N L : Nat} (h1 : 2 ^ L ≤ N) (h2 : N < 2 ^ (L + 1)) (hL : 52 ≤ L) : fl N = min ((L + 1022) * 4503599627370496 + evn N (L - 52)) 9218868437227405312 := by
 have e2 : Ieee.double.binade = 4503599627370496 := by decide
 have e3 : Ieee.double.infRung = 9218868437227405312 := by decide
 have e4 : Ieee.double.leastPlace = -1074 := by decide
 have e5 : Ieee.double.fractionBits = 52 := rfl
 have hN := Nat.two_pow_pos L
 have hlog := Km h1 h2
 rw [Kn]
 unfold Ieee.Format.nearest
 rw [if_neg (by omega), e2, e3, e4, e5, hlog]
 have e6 : max (0 + (L : Int) - (52 : Nat)) (-1074) = (L : Int) - 52 := by omega
 rw [e6]
 dsimp only
 have q1 : ((0 : Int) - ((L : Int) - 52)).toNat = 0 := by omega
 have q2 : ((L : Int) - 52 - 0).toNat = L - 52 := by omega
 rw [q1, q2, Nat.shiftLeft_zero, Ff _ _ (by rw [hlog]; omega)]
 have e7 : ((L : Int) - 52 - -1074).toNat = L + 1022 := by omega
 rw [e7, Ko]
theorem fl_zero : fl 0 = 0 := by rw [Kn]; decide
theorem P6 (N k : Nat) (h : N < 9007199254740992) : Ieee.double.nearest false (N * 2 ^ k) (-(k : Int)) = fl N := by
 rcases Nat.eq_zero_or_pos N with h0 | h0
 ·subst h0
  rw [fl_zero, Nat.zero_mul]
  rfl
 ·obtain ⟨a1, a2⟩ := Di N h0
  have hL : N.log2 ≤ 52 := by
   have : 2 ^ N.log2 < 2 ^ 53 := Nat.lt_of_le_of_lt a1 h
   have := (Nat.pow_lt_pow_iff_right (a := 2) (by omega)).1 this
   omega
  rw [Wh N _ k a1 a2 hL, O3 a1 a2 hL]
theorem Nv (N : Nat) (h : N < 9007199254740992) : ∃ k : Nat, Ieee.double.read (fl N) = .number false (N * 2 ^ k) (-(k : Int)) := by
 rcases Nat.eq_zero_or_pos N with h0 | h0
 ·subst h0
  obtain ⟨K, hK⟩ : ∃ K : Nat, K = 1074 := ⟨_, rfl⟩
  refine ⟨K, ?_⟩
  rw [fl_zero, Nat.zero_mul, show -(K : Int) = -1074 by omega]
  decide
 ·obtain ⟨a1, a2⟩ := Di N h0
  have hL : N.log2 ≤ 52 := by
   have : 2 ^ N.log2 < 2 ^ 53 := Nat.lt_of_le_of_lt a1 h
   have := (Nat.pow_lt_pow_iff_right (a := 2) (by omega)).1 this
   omega
  rw [O3 a1 a2 hL]
  obtain ⟨L, hLL⟩ : ∃ L, N.log2 = L := ⟨_, rfl⟩
  rw [hLL] at a1 a2 hL ⊢
  have h3 : N * 2 ^ (52 - L) < 9007199254740992 := by
   have : N * 2 ^ (52 - L) < 2 ^ (L + 1) * 2 ^ (52 - L) := Nat.mul_lt_mul_of_pos_right a2 (Nat.two_pow_pos _)
   rw [← Nat.pow_add, show L + 1 + (52 - L) = 53 by omega] at this
   exact this
  have h4 : 4503599627370496 ≤ N * 2 ^ (52 - L) := by
   have : 2 ^ L * 2 ^ (52 - L) ≤ N * 2 ^ (52 - L) := Nat.mul_le_mul_right _ a1
   rw [← Nat.pow_add, show L + (52 - L) = 52 by omega] at this
   exact this
  refine ⟨52 - L, ?_⟩
  obtain ⟨M, hM⟩ : ∃ M, N * 2 ^ (52 - L) = M := ⟨_, rfl⟩
  rw [hM] at h3 h4 ⊢
  have e1 : Ieee.double.signWeight = 9223372036854775808 := by decide
  have e2 : Ieee.double.binade = 4503599627370496 := by decide
  have e3 : Ieee.double.infRung = 9218868437227405312 := by decide
  have e4 : Ieee.double.leastPlace = -1074 := by decide
  unfold Ieee.Format.read
  rw [e1, e2, e3, e4]
  have q1 : ((L + 1022) * 4503599627370496 + M) % 9223372036854775808 = (L + 1022) * 4503599627370496 + M := Nat.mod_eq_of_lt (by omega)
  have q2 : ((L + 1022) * 4503599627370496 + M) / 9223372036854775808 % 2 = 0 := by omega
  have q3 : 4503599627370496 + ((L + 1022) * 4503599627370496 + M) % 4503599627370496 = M := by omega
  have q4 : (-1074 : Int) + ((((L + 1022) * 4503599627370496 + M) / 4503599627370496 - 1 : Nat) : Int) = -((52 - L : Nat) : Int) := by omega
  simp only [q1, q2, q3, q4]
  rw [if_neg (by omega), if_pos (by omega)]
  rfl
theorem Ajz {a b : Nat} (ha : a < 9007199254740992) (hb : b < 9007199254740992) (hab : a + b < 9007199254740992) : Ieee.double.add (fl a) (fl b) = some (fl (a + b)) := by
 obtain ⟨k, hk⟩ := Nv a ha
 obtain ⟨l, hl⟩ := Nv b hb
 unfold Ieee.Format.add
 rw [hk, hl]
 have hsum : ∃ j : Nat, Ieee.Datum.sum (.number false (a * 2 ^ k) (-(k : Int))) (.number false (b * 2 ^ l) (-(l : Int))) = some (.number false ((a + b) * 2 ^ j) (-(j : Int))) := by
  refine ⟨max k l, ?_⟩
  unfold Ieee.Datum.sum
  simp only [Io, Bool.false_eq_true, if_false]
  have b1 : min (-(k : Int)) (-(l : Int)) = -((max k l : Nat) : Int) := by omega
  rw [b1]
  have b2 : (-(k : Int) - -((max k l : Nat) : Int)).toNat = max k l - k := by omega
  have b3 : (-(l : Int) - -((max k l : Nat) : Int)).toNat = max k l - l := by omega
  rw [b2, b3]
  have b4 : a * 2 ^ k * 2 ^ (max k l - k) = a * 2 ^ max k l := by rw [Nat.mul_assoc, ← Nat.pow_add]; congr 2; omega
  have b5 : b * 2 ^ l * 2 ^ (max k l - l) = b * 2 ^ max k l := by rw [Nat.mul_assoc, ← Nat.pow_add]; congr 2; omega
  rw [b4, b5, ← Int.natCast_add, ← Nat.add_mul, Int.natAbs_natCast]
  have b6 : decide ((((a + b) * 2 ^ max k l : Nat) : Int) < 0) = false := decide_eq_false (by omega)
  rw [b6]
  simp
 obtain ⟨j, hj⟩ := hsum
 rw [hj]
 show some (Ieee.double.nearest false ((a + b) * 2 ^ j) (-(j : Int))) = _
 rw [P6 _ _ hab]
theorem Ahw {a b : Nat} (ha : a < 9007199254740992) (hb : b < 9007199254740992) (hab : a * b < 9007199254740992) : Ieee.double.mul (fl a) (fl b) = some (fl (a * b)) := by
 obtain ⟨k, hk⟩ := Nv a ha
 obtain ⟨l, hl⟩ := Nv b hb
 unfold Ieee.Format.mul
 rw [hk, hl]
 show some (Ieee.double.nearest false (a * 2 ^ k * (b * 2 ^ l)) (-(k : Int) + -(l : Int))) = _
 rw [show a * 2 ^ k * (b * 2 ^ l) = a * b * 2 ^ (k + l) by rw [Nat.pow_add]; grind, show -(k : Int) + -(l : Int) = -((k + l : Nat) : Int) by omega, P6 _ _ hab]
theorem Lw : Ac 0 = 0 := rfl
theorem Gp {r : Nat} : 0 < Ac r ↔ 0 < r := by have := @Fi 0 r; rw [Lw] at this; exact this
theorem Ey {r : Nat} (h : r < 9007199254740992) : Ac r = r := by
 unfold Ac
 by_cases h1 : r < 4503599627370496
 ·rw [if_pos h1]
 ·rw [if_neg h1, show r / 4503599627370496 = 1 by omega, Nat.sub_self, Nat.pow_zero]; omega
theorem Az (M d : Nat) (h1 : 4503599627370496 ≤ M) (h2 : M < 9007199254740992) : Ac (d * 4503599627370496 + M) = M * 2 ^ d := by
 unfold Ac
 rw [if_neg (by omega), show (d * 4503599627370496 + M) % 4503599627370496 = M - 4503599627370496 by omega, show (d * 4503599627370496 + M) / 4503599627370496 = d + 1 by omega, Nat.add_sub_cancel]
 rw [show 4503599627370496 + (M - 4503599627370496) = M by omega]
theorem E2 {r : Nat} (h : 4503599627370496 ≤ r) : ∃ M d, 4503599627370496 ≤ M ∧ M < 9007199254740992 ∧ r = d * 4503599627370496 + M ∧ Ac r = M * 2 ^ d :=
 ⟨4503599627370496 + r % 4503599627370496, r / 4503599627370496 - 1, by omega, by omega, by omega, by unfold Ac; rw [if_neg (by omega)]⟩
theorem Kt {M d : Nat} (h : 0 < M) : (M * 2 ^ d).log2 = M.log2 + d := by
 obtain ⟨a1, a2⟩ := Di M h
 refine Km ?_ ?_
 ·rw [Nat.pow_add]; exact Nat.mul_le_mul_right _ a1
 ·rw [show M.log2 + d + 1 = M.log2 + 1 + d by omega, Nat.pow_add]; exact Nat.mul_lt_mul_of_pos_right a2 (Nat.two_pow_pos d)
theorem Ag3 {M : Nat} (h1 : 4503599627370496 ≤ M) (h2 : M < 9007199254740992) : M.log2 = 52 := Km (show 2 ^ 52 ≤ M by exact h1) (show M < 2 ^ 53 by exact h2)
theorem Us (s : Bool) (n d : Nat) : Ieee.Toward.even.cut s n d = Ieee.Toward.even.cut false n d := rfl
theorem El {x y a b : Nat} (h : x * 2 ^ (a + b) = y * 2 ^ b) : x * 2 ^ a = y := by
 rw [Nat.pow_add, ← Nat.mul_assoc] at h
 exact Nat.eq_of_mul_eq_mul_right (Nat.two_pow_pos b) h
theorem Wo (s : Bool) {r m a b : Nat} {e : Int} (hr : r < 9218868437227405312) (hab : (a : Int) - b = e + 1074) (h : m * 2 ^ a = Ac r * 2 ^ b) : Ieee.double.nearest s m e = Ieee.double.word s r := by
 have e2 : Ieee.double.binade = 4503599627370496 := by decide
 have e3 : Ieee.double.infRung = 9218868437227405312 := by decide
 have e4 : Ieee.double.leastPlace = -1074 := by decide
 have e5 : Ieee.double.fractionBits = 52 := rfl
 unfold Ieee.Format.nearest
 rcases Nat.eq_zero_or_pos r with h0 | h0
 ·subst h0
  rw [Lw, Nat.zero_mul] at h
  have hm : m = 0 := (Nat.mul_eq_zero.1 h).resolve_right (by have := Nat.two_pow_pos a; omega)
  rw [if_pos hm]
 ·have hf := Gp.2 h0
  have hm : 0 < m := by
   rcases Nat.eq_zero_or_pos m with h1 | h1
   ·rw [h1, Nat.zero_mul] at h
    have := Nat.mul_pos hf (Nat.two_pow_pos b)
    omega
   ·exact h1
  rw [if_neg (by omega), e2, e3, e4, e5]
  have hlog : m.log2 + a = (Ac r).log2 + b := by rw [← Kt hm, ← Kt hf, h]
  obtain ⟨L, hL⟩ : ∃ L, m.log2 = L := ⟨_, rfl⟩
  rw [hL] at hlog ⊢
  dsimp only
  by_cases hlow : r < 9007199254740992
  ·have hfr := Ey hlow
   rw [hfr] at hlog h
   have hl : r.log2 ≤ 52 := by have := (Nat.log2_lt (n := r) (k := 53) (by omega)).2 hlow; omega
   have e6 : max (e + (L : Int) - (52 : Nat)) (-1074) = -1074 := by omega
   rw [e6, Us]
   have hcut : Ieee.Toward.even.cut false (m <<< (e - -1074).toNat) (-1074 - e).toNat = r := by
    rcases Nat.lt_or_ge a b with hlt | hge
    ·obtain ⟨c, rfl⟩ : ∃ c, b = c + a := ⟨b - a, by omega⟩
     have hmm : m = r * 2 ^ c := (El (x := r) (y := m) h.symm).symm
     have q1 : (e - -1074).toNat = 0 := by omega
     have q2 : (-1074 - e).toNat = c := by omega
     rw [q1, q2, Nat.shiftLeft_zero, Ff _ _ (by rw [hmm, Kt h0]; omega), hmm, Ep]
    ·obtain ⟨c, rfl⟩ : ∃ c, a = c + b := ⟨a - b, by omega⟩
     have hmm : m * 2 ^ c = r := El h
     have q1 : (e - -1074).toNat = c := by omega
     have q2 : (-1074 - e).toNat = 0 := by omega
     rw [q1, q2, Nat.shiftLeft_eq, hmm, Ff _ _ (Nat.zero_le _)]
     have := Ep r 0
     rwa [Nat.pow_zero, Nat.mul_one] at this
   rw [hcut, show (-1074 - -1074 : Int).toNat = 0 by omega, Nat.zero_mul, Nat.zero_add, Nat.min_eq_left (by omega)]
  ·obtain ⟨M, d, h1, h2, hrd, hfr⟩ := E2 (r := r) (by omega)
   rw [hfr, Kt (by omega), Ag3 h1 h2] at hlog
   rw [hfr] at h
   have hd : 0 < d := by omega
   have e6 : max (e + (L : Int) - (52 : Nat)) (-1074) = (d : Int) - 1074 := by omega
   rw [e6, Us]
   have hcut : Ieee.Toward.even.cut false (m <<< (e - ((d : Int) - 1074)).toNat) ((d : Int) - 1074 - e).toNat = M := by
    rw [Nat.mul_assoc, ← Nat.pow_add] at h
    rcases Nat.lt_or_ge a (d + b) with hlt | hge
    ·obtain ⟨c, hc⟩ : ∃ c, d + b = c + a := ⟨d + b - a, by omega⟩
     rw [hc] at h
     have hmm : m = M * 2 ^ c := (El (x := M) (y := m) h.symm).symm
     have q1 : (e - ((d : Int) - 1074)).toNat = 0 := by omega
     have q2 : ((d : Int) - 1074 - e).toNat = c := by omega
     rw [q1, q2, Nat.shiftLeft_zero, Ff _ _ (by rw [hL]; omega), hmm, Ep]
    ·obtain ⟨c, hc⟩ : ∃ c, a = c + (d + b) := ⟨a - (d + b), by omega⟩
     rw [hc] at h
     have hmm : m * 2 ^ c = M := El h
     have q1 : (e - ((d : Int) - 1074)).toNat = c := by omega
     have q2 : ((d : Int) - 1074 - e).toNat = 0 := by omega
     rw [q1, q2, Nat.shiftLeft_eq, hmm, Ff _ _ (Nat.zero_le _)]
     have := Ep M 0
     rwa [Nat.pow_zero, Nat.mul_one] at this
   rw [hcut, show ((d : Int) - 1074 - -1074).toNat = d by omega, Nat.min_eq_left (by omega), ← hrd]
theorem Ua {N M j : Nat} (hN : N = M * 2 ^ j) (hM : M < 9007199254740992) : ∃ r, Ac r = N := by
  by_cases hlow : N < 9007199254740992
  · exact ⟨N, Ey hlow⟩
  · have hM0 : 0 < M := by rcases Nat.eq_zero_or_pos M with h | h; · rw [h] at hN; omega
                           · exact h
    obtain ⟨a1, a2⟩ := Di M hM0
    have hl : M.log2 ≤ 52 := by have := (Nat.log2_lt (n := M) (k := 53) (by omega)).2 hM; omega
    obtain ⟨c, hc⟩ : ∃ c, c + M.log2 = 52 := ⟨52 - M.log2, by omega⟩
    have b1 : 4503599627370496 ≤ M * 2 ^ c := by
      have : 2 ^ M.log2 * 2 ^ c ≤ M * 2 ^ c := Nat.mul_le_mul_right _ a1
      rw [← Nat.pow_add, show M.log2 + c = 52 by omega] at this
      exact this
    have b2 : M * 2 ^ c < 9007199254740992 := by
      have : M * 2 ^ c < 2 ^ (M.log2 + 1) * 2 ^ c := Nat.mul_lt_mul_of_pos_right a2 (Nat.two_pow_pos c)
      rw [← Nat.pow_add, show M.log2 + 1 + c = 53 by omega] at this
      exact this
    have hjc : c ≤ j := by
      rcases Nat.lt_or_ge j c with h | h
      · have h1 : M * 2 ^ j ≤ M * 2 ^ c := Nat.mul_le_mul_left _ (Nat.pow_le_pow_right (by omega) (by omega))
        omega
      · exact h
    obtain ⟨d, rfl⟩ : ∃ d, j = c + d := ⟨j - c, by omega⟩
    exact ⟨d * 4503599627370496 + M * 2 ^ c, by rw [Az _ _ b1 b2, hN, Nat.pow_add, Nat.mul_assoc]⟩
theorem Qa {w : Nat} (h : w < 9218868437227405312) : ∃ m e, Ieee.double.read w = .number false m e ∧ -1074 ≤ e ∧ Ac w = m * 2 ^ (e + 1074).toNat := by
 have h1 : Bc w = w := Nat.mod_eq_of_lt (by omega)
 have h2 : Cc w = false := by unfold Cc; rw [Nat.div_eq_of_lt (by omega)]; rfl
 obtain ⟨m, e, a, b, c⟩ := Ib (w := w) (by rw [h1]; exact h)
 rw [h2] at a
 rw [h1] at c
 exact ⟨m, e, a, b, c⟩
theorem L6 {x y r : Nat} (hx : x < 9218868437227405312) (hy : y < 9218868437227405312) (hr : r < 9218868437227405312) {K : Nat} (hK : K = 1074) (h : Ac x * Ac y = Ac r * 2 ^ K) : Ieee.double.mul x y = some r := by
 obtain ⟨m, i, a1, a2, a3⟩ := Qa hx
 obtain ⟨n, j, b1, b2, b3⟩ := Qa hy
 unfold Ieee.Format.mul
 rw [a1, b1]
 simp only [Ieee.Datum.product, Option.map_some, Bool.xor_self]
 refine congrArg some ?_
 refine Wo false (a := (i + 1074).toNat + (j + 1074).toNat) (b := K) hr (by omega) ?_
 rw [← h, a3, b3, Nat.pow_add]
 grind
theorem Nk {N : Nat} (h : N < 9007199254740992) {K : Nat} (hK : K = 1074) : Ac (fl N) = N * 2 ^ K ∧ fl N < 9218868437227405312 := by
 obtain ⟨r, hr⟩ := Ua (N := N * 2 ^ K) rfl h
 have hlt : r < 9218868437227405312 := by
  obtain ⟨J, hJ⟩ : ∃ J : Nat, J = 2046 := ⟨_, rfl⟩
  have e1 := Az 4503599627370496 J (by omega) (by omega)
  rw [show J * 4503599627370496 + 4503599627370496 = 9218868437227405312 by rw [hJ]] at e1
  refine Fi.1 ?_
  rw [hr, e1]
  have h1 : N * 2 ^ K < 9007199254740992 * 2 ^ K := Nat.mul_lt_mul_of_pos_right h (Nat.two_pow_pos K)
  have h2 : 9007199254740992 * 2 ^ K ≤ 4503599627370496 * 2 ^ J := by
   rw [show (9007199254740992 : Nat) = 4503599627370496 * 2 by rfl, Nat.mul_assoc]
   refine Nat.mul_le_mul_left _ ?_
   rw [show 2 * 2 ^ K = 2 ^ (K + 1) by rw [Nat.pow_succ, Nat.mul_comm]]
   exact Nat.pow_le_pow_right (by omega) (by omega)
  omega
 have := Wo false (r := r) (m := N) (a := K) (b := 0) (e := 0) hlt (by omega) (by rw [hr, Nat.pow_zero, Nat.mul_one])
 rw [Kn, this]
 exact ⟨hr, hlt⟩
theorem Ao1 {n d C : Nat} (h : n ≤ C * 2 ^ d) : evn n d ≤ C := by
 unfold evn
 have hd := Nat.two_pow_pos d
 have e1 := Nat.div_add_mod n (2 ^ d)
 have hq : n / 2 ^ d ≤ C := Nat.div_le_of_le_mul (by rw [Nat.mul_comm]; exact h)
 rcases Nat.eq_or_lt_of_le hq with h1 | h1
 ·have h2 : n % 2 ^ d = 0 := by
   rw [h1, Nat.mul_comm] at e1
   omega
  rw [h2, decide_eq_false (by omega), decide_eq_false (by omega)]
  simp only [Bool.false_and, Bool.or_self, Bool.toNat_false]
  omega
 ·have := Bool.toNat_le (decide (2 ^ d < 2 * (n % 2 ^ d)) || (decide (2 ^ d = 2 * (n % 2 ^ d)) && decide (n / 2 ^ d % 2 = 1)))
  omega
theorem Ao9 {n d C : Nat} (h : C * 2 ^ d ≤ n) : C ≤ evn n d := by
 unfold evn
 have h1 : C ≤ n / 2 ^ d := (Nat.le_div_iff_mul_le (Nat.two_pow_pos d)).2 h
 omega
theorem T9 {n d : Nat} (h : 2 * n < 2 ^ d) : evn n d = 0 := by
 have h1 : n < 2 ^ d := by omega
 unfold evn
 rw [Nat.div_eq_of_lt h1, Nat.mod_eq_of_lt h1, decide_eq_false (by omega), decide_eq_false (by omega)]
 rfl
theorem Amw (n d : Nat) (hn : 0 < n) : Ieee.Toward.even.cut false n d = evn n d := by
 rcases Nat.lt_or_ge (n.log2 + 2) d with h | h
 ·have h1 := (Di n hn).2
  have h2 : Ieee.Toward.even.cut false n d = evn n (n.log2 + 2) := by
   rw [← Ff n (n.log2 + 2) (Nat.le_refl _)]
   unfold Ieee.Toward.cut
   rw [Nat.min_eq_right (by omega), Nat.min_self]
  have h3 : 2 * n < 2 ^ (n.log2 + 2) := by rw [show n.log2 + 2 = n.log2 + 1 + 1 by omega, Nat.pow_succ]; omega
  rw [h2, T9 h3, T9 (Nat.lt_of_lt_of_le h3 (Nat.pow_le_pow_right (by omega) (by omega)))]
 ·exact Ff n d h
theorem Age (R : Nat) : ∃ M d, R = d * 4503599627370496 + M ∧ Ac R = M * 2 ^ d ∧ M < 9007199254740992 ∧ (d = 0 ∨ 4503599627370496 ≤ M) := by
 rcases Nat.lt_or_ge R 4503599627370496 with h | h
 ·exact ⟨R, 0, by omega, by rw [Ey (by omega), Nat.pow_zero, Nat.mul_one], by omega, Or.inl rfl⟩
 ·obtain ⟨M, d, a, b, c, e⟩ := E2 h
  exact ⟨M, d, c, e, b, Or.inr a⟩
def E0 (n : Int) (u v : Nat) : Prop := v * 10 ^ n.toNat ≤ u * 10 ^ (-n).toNat
theorem Afa {n : Int} {u v : Nat} (h : E0 (n + 1) u v) : E0 n u v := by
 unfold E0 at h ⊢
 rcases Int.lt_or_le n 0 with h0 | h0
 ·rw [show (n + 1).toNat = 0 by omega, Nat.pow_zero, Nat.mul_one] at h
  rw [show n.toNat = 0 by omega, Nat.pow_zero, Nat.mul_one]
  refine Nat.le_trans h (Nat.mul_le_mul_left _ (Nat.pow_le_pow_right (by omega) (by omega)))
 ·rw [show (-(n + 1)).toNat = 0 by omega, Nat.pow_zero, Nat.mul_one, show (n + 1).toNat = n.toNat + 1 by omega, Nat.pow_succ] at h
  rw [show (-n).toNat = 0 by omega, Nat.pow_zero, Nat.mul_one]
  refine Nat.le_trans ?_ h
  exact Nat.mul_le_mul_left _ (by omega)
theorem In {n : Int} {u v : Nat} : ∀ k : Nat, E0 (n + k) u v → E0 n u v
 | 0, h => by rwa [show n + ((0 : Nat) : Int) = n by omega] at h
 | k + 1, h => In k (Afa (by rwa [show n + (k : Int) + 1 = n + ((k + 1 : Nat) : Int) by omega]))
def By (u v : Nat) (n : Int) : Prop := E0 (n - 1) u v ∧ ¬ E0 n u v
theorem L4 {u v : Nat} {n k : Int} (h1 : By u v n) (h2 : By u v k) : n = k := by
 have key : ∀ {a b : Int}, By u v a → By u v b → ¬ a < b := by
  intro a b ha hb h
  refine ha.2 (In (b - 1 - a).toNat ?_)
  rw [show a + (((b - 1 - a).toNat : Nat) : Int) = b - 1 by omega]
  exact hb.1
 have a := key h1 h2
 have b := key h2 h1
 omega
theorem Ap8 : ∀ k : Fin 1100, 10 ^ (k.val * 78913 / 262144) ≤ 2 ^ k.val ∧ 2 ^ k.val < 10 ^ (k.val * 78913 / 262144 + 1) := by decide +kernel
theorem Apk : ∀ k : Fin 1140, 2 ^ k.val ≤ 10 ^ ((k.val * 78913 + 262143) / 262144) ∧ (k.val = 0 ∨ 10 ^ ((k.val * 78913 + 262143) / 262144 - 1) < 2 ^ k.val) := by decide +kernel
def lg2 (e : Int) : Int := e * 78913 / 262144
theorem An7 {e : Int} (h1 : -1140 < e) (h2 : e < 1100) : E0 (lg2 e) (2 ^ e.toNat) (2 ^ (-e).toNat) ∧ ¬ E0 (lg2 e + 1) (2 ^ e.toNat) (2 ^ (-e).toNat) := by
 unfold E0 lg2
 rcases Int.lt_or_le e 0 with h | h
 ·obtain ⟨k, hk⟩ : ∃ k : Nat, e = -(k : Int) := ⟨(-e).toNat, by omega⟩
  subst hk
  have hk0 : k ≠ 0 := by omega
  obtain ⟨t1, t2⟩ := Apk ⟨k, by omega⟩
  dsimp only at t1 t2
  have t3 := t2.resolve_left hk0
  obtain ⟨N, hN⟩ : ∃ N, (k * 78913 + 262143) / 262144 = N := ⟨_, rfl⟩
  rw [hN] at t1 t3
  have hn : (-(k : Int)) * 78913 / 262144 = -(N : Int) := by omega
  have hN1 : 1 ≤ N := by omega
  rw [hn, show (-(k : Int)).toNat = 0 by omega, show (-(-(k : Int))).toNat = k by omega, show (-(N : Int)).toNat = 0 by omega, show (-(-(N : Int))).toNat = N by omega, show (-(N : Int) + 1).toNat = 0 by omega, show (-(-(N : Int) + 1)).toNat = N - 1 by omega]
  simp only [Nat.pow_zero, Nat.mul_one, Nat.one_mul]
  exact ⟨t1, by omega⟩
 ·obtain ⟨k, rfl⟩ := Int.eq_ofNat_of_zero_le h
  obtain ⟨t1, t2⟩ := Ap8 ⟨k, by omega⟩
  dsimp only at t1 t2
  obtain ⟨N, hN⟩ : ∃ N, k * 78913 / 262144 = N := ⟨_, rfl⟩
  rw [hN] at t1 t2
  have hn : (k : Int) * 78913 / 262144 = (N : Int) := by omega
  rw [hn, show ((k : Nat) : Int).toNat = k by omega, show (-(k : Int)).toNat = 0 by omega, show ((N : Nat) : Int).toNat = N by omega, show (-(N : Int)).toNat = 0 by omega, show ((N : Int) + 1).toNat = N + 1 by omega, show (-((N : Int) + 1)).toNat = 0 by omega]
  simp only [Nat.pow_zero, Nat.mul_one, Nat.one_mul]
  exact ⟨t1, by omega⟩
theorem Ik {n : Int} {u v u' v' : Nat} (hv : 0 < v) (h : u * v' ≤ u' * v) (hl : E0 n u v) : E0 n u' v' := by
 unfold E0 at hl ⊢
 generalize 10 ^ n.toNat = P at *
 generalize 10 ^ (-n).toNat = Q at *
 refine Nat.le_of_mul_le_mul_right (c := v) ?_ hv
 have h1 : v * P * v' ≤ u * Q * v' := Nat.mul_le_mul_right _ hl
 have h2 : u * v' * Q ≤ u' * v * Q := Nat.mul_le_mul_right _ h
 have e1 : v' * P * v = v * P * v' := by grind
 have e2 : u * Q * v' = u * v' * Q := by grind
 have e3 : u' * Q * v = u' * v * Q := by grind
 omega
theorem Yh {u v : Nat} {e : Int} (hv : 0 < v) (h1 : -1140 < e) (h2 : e < 1100) (hlo : 2 ^ e.toNat * v ≤ u * 2 ^ (-e).toNat) (hhi : u * 2 ^ (-e).toNat < 2 * 2 ^ e.toNat * v) :
  (¬ E0 (lg2 e + 1) u v → By u v (lg2 e + 1)) ∧ (E0 (lg2 e + 1) u v → By u v (lg2 e + 2)) := by
 obtain ⟨t1, t2⟩ := An7 h1 h2
 have hp := Nat.two_pow_pos (-e).toNat
 have l0 : E0 (lg2 e) u v := Ik hp (by omega) t1
 refine ⟨fun h => ⟨by rw [show lg2 e + 1 - 1 = lg2 e by omega]; exact l0, h⟩, fun h => ⟨by rw [show lg2 e + 2 - 1 = lg2 e + 1 by omega]; exact h, fun hh => t2 ?_⟩⟩
 -- ten times is more than twice
 unfold E0 at hh ⊢
 obtain ⟨p, hp1⟩ : ∃ p, 2 ^ e.toNat = p := ⟨_, rfl⟩
 obtain ⟨r, hr⟩ : ∃ r, 2 ^ (-e).toNat = r := ⟨_, rfl⟩
 rw [hp1, hr] at hhi
 rw [hr] at hp
 rw [hp1, hr]
 have step : ∀ P Q P' Q' : Nat, 10 * P * Q' = P' * Q → v * P' ≤ u * Q' → 0 < Q' → r * P ≤ p * Q := by
  intro P Q P' Q' he hc hq
  -- u r < 2 p v, v P' <= u Q': so 10 r P Q' = r P' Q <= .. < 2 p Q Q'
  rcases Nat.lt_or_ge (p * Q) (r * P) with hlt | hge
  ·exfalso
   have a1 : v * P' * (r * Q) ≤ u * Q' * (r * Q) := Nat.mul_le_mul_right _ hc
   have a2 : u * r * (Q' * Q) ≤ 2 * p * v * (Q' * Q) := Nat.mul_le_mul_right _ (Nat.le_of_lt hhi)
   have a3 : (p * Q + 1) * (10 * v * Q') ≤ r * P * (10 * v * Q') := Nat.mul_le_mul_right _ hlt
   have e1 : v * P' * (r * Q) = r * P * (10 * v * Q') := by
    have : v * P' * (r * Q) = v * r * (P' * Q) := by grind
    rw [this, ← he]; grind
   have e2 : u * Q' * (r * Q) = u * r * (Q' * Q) := by grind
   have e3 : 2 * p * v * (Q' * Q) = p * Q * (2 * v * Q') := by grind
   have e4 : (p * Q + 1) * (10 * v * Q') = p * Q * (10 * v * Q') + 10 * v * Q' := by grind
   have e5 : p * Q * (2 * v * Q') ≤ p * Q * (10 * v * Q') := Nat.mul_le_mul_left _ (Nat.mul_le_mul_right _ (Nat.mul_le_mul_right _ (by omega)))
   have e6 : 0 < 10 * v * Q' := Nat.mul_pos (Nat.mul_pos (by omega) hv) hq
   omega
  ·exact hge
 refine step _ _ _ _ ?_ hh (Nat.pow_pos (by omega))
 obtain ⟨k, hk⟩ : ∃ k, lg2 e + 1 = k := ⟨_, rfl⟩
 rw [hk, show lg2 e + 2 = k + 1 by omega]
 rcases Int.lt_or_le k 0 with h0 | h0
 ·rw [show k.toNat = 0 by omega, show (k + 1).toNat = 0 by omega, show (-k).toNat = (-(k + 1)).toNat + 1 by omega, Nat.pow_succ]
  grind
 ·rw [show (-k).toNat = 0 by omega, show (-(k + 1)).toNat = 0 by omega, show (k + 1).toNat = k.toNat + 1 by omega, Nat.pow_succ]
  grind
theorem Afn : ∀ k : Fin 2300, 2 ^ (-((k.val : Int) - 1150 - 1)).toNat * 10 ^ ((((k.val : Int) - 1150) * 30103).tdiv 100000 - 4).toNat ≤ 2 ^ ((k.val : Int) - 1150 - 1).toNat * 10 ^ (-((((k.val : Int) - 1150) * 30103).tdiv 100000 - 4)).toNat := by decide +kernel
theorem Ai8 {e : Int} (h1 : -1150 ≤ e) (h2 : e < 1150) : E0 ((e * 30103).tdiv 100000 - 4) (2 ^ (e - 1).toNat) (2 ^ (-(e - 1)).toNat) := by
 have h := Afn ⟨(e + 1150).toNat, by omega⟩
 dsimp only at h
 rw [show (((e + 1150).toNat : Nat) : Int) - 1150 = e by omega] at h
 exact h
def Dg (u w : Nat) : Nat := u / w + (decide (w < 2 * (u % w)) || (decide (w = 2 * (u % w)) && decide (u / w % 2 = 1))).toNat
theorem Pa (n d : Nat) : Dg n (2 ^ d) = evn n d := rfl
theorem Ci {u w k : Nat} (hk : 0 < k) : Dg (u * k) (w * k) = Dg u w := by
 unfold Dg
 rw [Nat.mul_div_mul_right _ _ hk, Nat.mul_mod_mul_right]
 have h1 : (w * k < 2 * (u % w * k)) ↔ (w < 2 * (u % w)) := by
  rw [← Nat.mul_assoc]
  exact Nat.mul_lt_mul_right hk
 have h2 : (w * k = 2 * (u % w * k)) ↔ (w = 2 * (u % w)) := by
  rw [← Nat.mul_assoc]
  exact ⟨fun h => Nat.eq_of_mul_eq_mul_right hk h, fun h => by rw [← h]⟩
 simp only [h1, h2]
theorem Ac9 {u w C : Nat} (hw : 0 < w) (h : u ≤ C * w) : Dg u w ≤ C := by
 unfold Dg
 have e1 := Nat.div_add_mod u w
 have hq : u / w ≤ C := Nat.div_le_of_le_mul (by rw [Nat.mul_comm]; exact h)
 rcases Nat.eq_or_lt_of_le hq with h1 | h1
 ·have h2 : u % w = 0 := by rw [h1, Nat.mul_comm] at e1; omega
  rw [h2, decide_eq_false (by omega), decide_eq_false (by omega)]
  simp only [Bool.false_and, Bool.or_self, Bool.toNat_false]
  omega
 ·have := Bool.toNat_le (decide (w < 2 * (u % w)) || (decide (w = 2 * (u % w)) && decide (u / w % 2 = 1)))
  omega
theorem Nx {u w C : Nat} (hw : 0 < w) (h : C * w ≤ u) : C ≤ Dg u w := by
 unfold Dg
 have h1 : C ≤ u / w := (Nat.le_div_iff_mul_le hw).2 h
 omega
theorem Rk (w : Nat) : Dg 0 w = 0 := by
 unfold Dg
 rw [Nat.zero_div, Nat.zero_mod, decide_eq_false (by omega), show decide (0 % 2 = 1) = false by decide, Bool.and_false]
 rfl
def Bj (u v : Nat) : Nat := (u / v).log2 - 52
def rnd (u v : Nat) : Nat := min (Bj u v * 4503599627370496 + Dg u (2 ^ Bj u v * v)) 9218868437227405312
theorem Sx {u v k : Nat} (hk : 0 < k) : Bj (u * k) (v * k) = Bj u v := by
 unfold Bj
 rw [Nat.mul_div_mul_right _ _ hk]
theorem Iw {u v k : Nat} (hk : 0 < k) : rnd (u * k) (v * k) = rnd u v := by
 unfold rnd
 rw [Sx hk, ← Nat.mul_assoc, Ci hk]
theorem Er {u v D : Nat} (hv : 0 < v) (h1 : D = 0 ∨ 4503599627370496 * 2 ^ D * v ≤ u) (h2 : u < 9007199254740992 * 2 ^ D * v) : Bj u v = D := by
 unfold Bj
 have hlt : u / v < 9007199254740992 * 2 ^ D := (Nat.div_lt_iff_lt_mul hv).2 h2
 have e1 : 9007199254740992 * 2 ^ D = 2 ^ (D + 53) := by rw [Nat.pow_add, Nat.mul_comm]
 have e2 : 4503599627370496 * 2 ^ D = 2 ^ (D + 52) := by rw [Nat.pow_add, Nat.mul_comm]
 rw [e1] at hlt
 rcases Nat.eq_zero_or_pos (u / v) with h0 | h0
 ·rw [h0]
  rcases h1 with h1 | h1
  ·rw [h1]; rfl
  ·have := (Nat.le_div_iff_mul_le hv).2 h1
   rw [h0] at this
   have := Nat.two_pow_pos D
   omega
 ·have hl : (u / v).log2 < D + 53 := (Nat.log2_lt (by omega)).2 hlt
  rcases h1 with h1 | h1
  ·omega
  ·have h3 := (Nat.le_div_iff_mul_le hv).2 h1
   rw [e2] at h3
   have := (Nat.le_log2 (by omega)).2 h3
   omega
theorem Aki (s : Bool) {m a b : Nat} {e : Int} (hab : (a : Int) - b = e + 1074) : Ieee.double.nearest s m e = Ieee.double.word s (rnd (m * 2 ^ a) (2 ^ b)) := by
 have e2 : Ieee.double.binade = 4503599627370496 := by decide
 have e3 : Ieee.double.infRung = 9218868437227405312 := by decide
 have e4 : Ieee.double.leastPlace = -1074 := by decide
 have e5 : Ieee.double.fractionBits = 52 := rfl
 have hb := Nat.two_pow_pos b
 unfold Ieee.Format.nearest
 rcases Nat.eq_zero_or_pos m with h0 | h0
 ·subst h0
  rw [if_pos rfl]
  have : rnd (0 * 2 ^ a) (2 ^ b) = 0 := by
   unfold rnd
   rw [Nat.zero_mul, Rk]
   unfold Bj
   rw [Nat.zero_div]
   rfl
  rw [this]
 ·rw [if_neg (by omega), e2, e3, e4, e5]
  obtain ⟨L, hL⟩ : ∃ L, m.log2 = L := ⟨_, rfl⟩
  obtain ⟨a1, a2⟩ := Di m h0
  rw [hL] at a1 a2 ⊢
  obtain ⟨p, hp⟩ : ∃ p, max (e + (L : Int) - (52 : Nat)) (-1074) = p := ⟨_, rfl⟩
  rw [hp]
  dsimp only
  rw [Us]
  obtain ⟨D, hD⟩ : ∃ D, (p - -1074).toNat = D := ⟨_, rfl⟩
  rw [hD]
  -- the place
  have hpl : Bj (m * 2 ^ a) (2 ^ b) = D := by
   refine Er hb ?_ ?_
   ·rcases Nat.eq_zero_or_pos D with h1 | h1
    ·exact Or.inl h1
    ·refine Or.inr ?_
     rw [show (4503599627370496 : Nat) = 2 ^ 52 from rfl, ← Nat.pow_add, ← Nat.pow_add]
     refine Nat.le_trans ?_ (Nat.mul_le_mul_right _ a1)
     rw [← Nat.pow_add]
     exact Nat.pow_le_pow_right (by omega) (by omega)
   ·refine Nat.lt_of_lt_of_le (Nat.mul_lt_mul_of_pos_right a2 (Nat.two_pow_pos a)) ?_
    rw [show (9007199254740992 : Nat) = 2 ^ 53 from rfl, ← Nat.pow_add, ← Nat.pow_add, ← Nat.pow_add]
    exact Nat.pow_le_pow_right (by omega) (by omega)
  unfold rnd
  rw [hpl]
  have hc : Ieee.Toward.even.cut false (m <<< (e - p).toNat) (p - e).toNat = Dg (m * 2 ^ a) (2 ^ D * 2 ^ b) := by
   rw [Amw _ _ (by rw [Nat.shiftLeft_eq]; exact Nat.mul_pos h0 (Nat.two_pow_pos _)), Nat.shiftLeft_eq, ← Pa]
   obtain ⟨x, hx⟩ : ∃ x : Nat, (e - p).toNat = x := ⟨_, rfl⟩
   obtain ⟨y, hy⟩ : ∃ y : Nat, (p - e).toNat = y := ⟨_, rfl⟩
   rw [hx, hy, ← Nat.pow_add]
   -- a + y = D + b + x: scale both sides
   rcases Nat.le_total a x with h | h
   ·obtain ⟨k, rfl⟩ : ∃ k, x = a + k := ⟨x - a, by omega⟩
    have : y = D + b + k := by omega
    rw [this, Nat.pow_add 2 a k, Nat.pow_add 2 (D + b) k, ← Nat.mul_assoc, Ci (Nat.two_pow_pos k)]
   ·obtain ⟨k, rfl⟩ : ∃ k, a = x + k := ⟨a - x, by omega⟩
    have : D + b = y + k := by omega
    rw [this, Nat.pow_add 2 x k, Nat.pow_add 2 y k, ← Nat.mul_assoc, Ci (Nat.two_pow_pos k)]
  rw [hc]
theorem H0 {N n q t d : Nat} (hN : N = q * n + t) (h0 : 0 < t) (ht : t < n) (hd : 0 < d) : Dg N (n * 2 ^ d) = q / 2 ^ d + (decide (2 ^ d ≤ 2 * (q % 2 ^ d))).toNat := by
 obtain ⟨c, rfl⟩ : ∃ c, d = c + 1 := ⟨d - 1, by omega⟩
 have hP : 2 ^ (c + 1) = 2 * 2 ^ c := by rw [Nat.pow_succ, Nat.mul_comm]
 have hc := Nat.two_pow_pos c
 have e1 := Nat.div_add_mod q (2 ^ (c + 1))
 have e2 := Nat.mod_lt q (Nat.two_pow_pos (c + 1))
 obtain ⟨Q, hQ⟩ : ∃ Q, q / 2 ^ (c + 1) = Q := ⟨_, rfl⟩
 obtain ⟨r, hr⟩ : ∃ r, q % 2 ^ (c + 1) = r := ⟨_, rfl⟩
 rw [hQ, hr] at e1
 rw [hr] at e2
 rw [hQ, hr]
 have hlt : r * n + t < n * 2 ^ (c + 1) := by
  have : (r + 1) * n ≤ 2 ^ (c + 1) * n := Nat.mul_le_mul_right _ e2
  rw [Nat.add_mul, Nat.one_mul, Nat.mul_comm (2 ^ (c + 1))] at this
  omega
 have hNN : N = n * 2 ^ (c + 1) * Q + (r * n + t) := by rw [hN, ← e1]; grind
 have hdiv : N / (n * 2 ^ (c + 1)) = Q := by
  rw [hNN, Nat.mul_add_div (by omega), Nat.div_eq_of_lt hlt, Nat.add_zero]
 have hmod : N % (n * 2 ^ (c + 1)) = r * n + t := by
  rw [hNN, Nat.mul_add_mod, Nat.mod_eq_of_lt hlt]
 unfold Dg
 rw [hdiv, hmod, hP]
 have k1 : n * (2 * 2 ^ c) < 2 * (r * n + t) ↔ 2 ^ c ≤ r := by
  constructor
  ·intro h
   rcases Nat.lt_or_ge r (2 ^ c) with h1 | h1
   ·exfalso
    have : (r + 1) * n ≤ 2 ^ c * n := Nat.mul_le_mul_right _ h1
    rw [Nat.add_mul, Nat.one_mul] at this
    have e3 : n * (2 * 2 ^ c) = 2 * (2 ^ c * n) := by grind
    omega
   ·exact h1
  ·intro h
   have : 2 ^ c * n ≤ r * n := Nat.mul_le_mul_right _ h
   have e3 : n * (2 * 2 ^ c) = 2 * (2 ^ c * n) := by grind
   omega
 have k2 : ¬ n * (2 * 2 ^ c) = 2 * (r * n + t) := by
  intro h
  have e3 : n * (2 * 2 ^ c) = 2 * (2 ^ c * n) := by grind
  have h4 : 2 ^ c * n = r * n + t := by omega
  rcases Nat.lt_or_ge r (2 ^ c) with h1 | h1
  ·have : (r + 1) * n ≤ 2 ^ c * n := Nat.mul_le_mul_right _ h1
   rw [Nat.add_mul, Nat.one_mul] at this
   omega
  ·have : 2 ^ c * n ≤ r * n := Nat.mul_le_mul_right _ h1
   omega
 rw [decide_eq_false k2, Bool.false_and, Bool.or_false]
 congr 2
 exact decide_eq_decide.2 (k1.trans (by omega))
theorem Pi {q d : Nat} (hd : 0 < d) : Dg (2 * q + 1) (2 * 2 ^ d) = q / 2 ^ d + (decide (2 ^ d ≤ 2 * (q % 2 ^ d))).toNat := by
 have h := H0 (N := 2 * q + 1) (n := 2) (q := q) (t := 1) (d := d) (by omega) (by omega) (by omega) hd
 exact h
theorem Anj {q d : Nat} (hd : 1 < d) : Dg (q ||| 1) (2 ^ d) = q / 2 ^ d + (decide (2 ^ d ≤ 2 * (q % 2 ^ d))).toNat := by
 have ho : q ||| 1 = 2 * (q / 2) + 1 := by
  have h1 : q ||| 1 = (q / 2) * 2 + 1 := by
   have h2 : (q ||| 1) / 2 = q / 2 := by rw [Nat.or_div_two]; simp
   have h3 : (q ||| 1) % 2 = 1 := by rw [Nat.or_mod_two_eq_one]; simp
   omega
  omega
 obtain ⟨c, rfl⟩ : ∃ c, d = c + 1 := ⟨d - 1, by omega⟩
 obtain ⟨f, rfl⟩ : ∃ f, c = f + 1 := ⟨c - 1, by omega⟩
 have hP : 2 ^ (f + 1 + 1) = 2 * 2 ^ (f + 1) := by rw [Nat.pow_succ, Nat.mul_comm]
 rw [ho, hP, Pi (by omega)]
 have hP2 : 2 ^ (f + 1) = 2 * 2 ^ f := by rw [Nat.pow_succ, Nat.mul_comm]
 have hf := Nat.two_pow_pos f
 have e1 : q / 2 / 2 ^ (f + 1) = q / (2 * 2 ^ (f + 1)) := by rw [Nat.div_div_eq_div_mul]
 have e2 : q % (2 * 2 ^ (f + 1)) = q % 2 + 2 * (q / 2 % 2 ^ (f + 1)) := Nat.mod_mul
 rw [e1, e2]
 congr 2
 refine decide_eq_decide.2 ?_
 have := Nat.mod_lt q (show 0 < 2 by omega)
 rw [hP2]
 generalize q / 2 % (2 * 2 ^ f) = r
 omega
theorem Fo {u v D : Nat} (hv : 0 < v) (h : Bj u v = D) : (D = 0 ∨ 4503599627370496 * 2 ^ D * v ≤ u) ∧ u < 9007199254740992 * 2 ^ D * v := by
 unfold Bj at h
 rcases Nat.eq_zero_or_pos (u / v) with h0 | h0
 ·rw [h0, show Nat.log2 0 = 0 by decide] at h
  have hD : D = 0 := by omega
  refine ⟨Or.inl hD, ?_⟩
  have h1 : u < v := by
   rcases Nat.lt_or_ge u v with h2 | h2
   ·exact h2
   ·have := (Nat.le_div_iff_mul_le hv).2 (show 1 * v ≤ u by omega)
    omega
  rw [hD, Nat.pow_zero, Nat.mul_one]
  omega
 ·obtain ⟨a1, a2⟩ := Di _ h0
  constructor
  ·rcases Nat.eq_zero_or_pos D with h1 | h1
   ·exact Or.inl h1
   ·refine Or.inr ((Nat.le_div_iff_mul_le hv).1 ?_)
    rw [show (4503599627370496 : Nat) = 2 ^ 52 from rfl, ← Nat.pow_add, show 52 + D = (u / v).log2 by omega]
    exact a1
  ·refine (Nat.div_lt_iff_lt_mul hv).1 (Nat.lt_of_lt_of_le a2 ?_)
   rw [show (9007199254740992 : Nat) = 2 ^ 53 from rfl, ← Nat.pow_add]
   exact Nat.pow_le_pow_right (by omega) (by omega)
theorem Ade {N n q t C : Nat} (hN : N = q * n + t) (ht : t < n) : C * n ≤ N ↔ C ≤ q := by
 constructor
 ·intro h
  rcases Nat.lt_or_ge q C with h1 | h1
  ·have : (q + 1) * n ≤ C * n := Nat.mul_le_mul_right _ h1
   rw [Nat.add_mul, Nat.one_mul] at this
   omega
  ·exact h1
 ·intro h
  have : C * n ≤ q * n := Nat.mul_le_mul_right _ h
  omega
theorem U9 {N n q t s A B D d : Nat} (hn : 0 < n) (hN : N = q * n + t) (ht : t < n) (hs : s = if t = 0 then 0 else 1) (hD : Bj (N * 2 ^ A) (2 ^ B * n) = D) (hd : D + B = A + d) (hd0 : 0 < d) :
  rnd ((2 * q + s) * 2 ^ A) (2 ^ (B + 1)) = rnd (N * 2 ^ A) (2 ^ B * n) ∧ (1 < d → rnd ((q ||| s) * 2 ^ A) (2 ^ B) = rnd (N * 2 ^ A) (2 ^ B * n)) := by
 have hA := Nat.two_pow_pos A
 have hB := Nat.two_pow_pos B
 have hDB : 2 ^ D * 2 ^ B = 2 ^ d * 2 ^ A := by rw [← Nat.pow_add, ← Nat.pow_add, hd, Nat.add_comm]
 obtain ⟨s1, s2⟩ := Fo (Nat.mul_pos hB hn) hD
 have hs1 : s ≤ 1 := by rw [hs]; split <;> omega
 -- where the quotient lies
 have cN : ∀ C, C * 2 ^ D * (2 ^ B * n) = C * 2 ^ d * n * 2 ^ A := by
  intro C
  have : C * 2 ^ D * (2 ^ B * n) = C * n * (2 ^ D * 2 ^ B) := by grind
  rw [this, hDB]; grind
 rw [cN] at s1 s2
 have q1 : D = 0 ∨ 4503599627370496 * 2 ^ d ≤ q := by
  rcases s1 with h | h
  ·exact Or.inl h
  ·exact Or.inr ((Ade hN ht).1 (Nat.le_of_mul_le_mul_right h hA))
 have q2 : q < 9007199254740992 * 2 ^ d := by
  have h1 := Nat.lt_of_mul_lt_mul_right s2
  rcases Nat.lt_or_ge q (9007199254740992 * 2 ^ d) with h | h
  ·exact h
  ·have := (Ade hN ht).2 h
   omega
 have hR : rnd (N * 2 ^ A) (2 ^ B * n) = min (D * 4503599627370496 + Dg N (n * 2 ^ d)) 9218868437227405312 := by
  unfold rnd
  rw [hD]
  have : 2 ^ D * (2 ^ B * n) = n * 2 ^ d * 2 ^ A := by
   have e : 2 ^ D * (2 ^ B * n) = 2 ^ D * 2 ^ B * n := by grind
   rw [e, hDB]; grind
  rw [this, Ci hA]
 constructor
 ·have hp : Bj ((2 * q + s) * 2 ^ A) (2 ^ (B + 1)) = D := by
   refine Er (Nat.two_pow_pos _) ?_ ?_
   ·rcases q1 with h | h
    ·exact Or.inl h
    ·refine Or.inr ?_
     have e : 4503599627370496 * 2 ^ D * 2 ^ (B + 1) = 2 * (4503599627370496 * 2 ^ d) * 2 ^ A := by
      rw [Nat.pow_succ]
      have : 4503599627370496 * 2 ^ D * (2 ^ B * 2) = 2 * 4503599627370496 * (2 ^ D * 2 ^ B) := by grind
      rw [this, hDB]; grind
     rw [e]
     exact Nat.mul_le_mul_right _ (by omega)
   ·have e : 9007199254740992 * 2 ^ D * 2 ^ (B + 1) = 2 * (9007199254740992 * 2 ^ d) * 2 ^ A := by
     rw [Nat.pow_succ]
     have : 9007199254740992 * 2 ^ D * (2 ^ B * 2) = 2 * 9007199254740992 * (2 ^ D * 2 ^ B) := by grind
     rw [this, hDB]; grind
    rw [e]
    exact Nat.mul_lt_mul_of_pos_right (by omega) hA
  rw [hR]
  unfold rnd
  rw [hp]
  have e : 2 ^ D * 2 ^ (B + 1) = 2 * 2 ^ d * 2 ^ A := by
   rw [Nat.pow_succ]
   have : 2 ^ D * (2 ^ B * 2) = 2 * (2 ^ D * 2 ^ B) := by grind
   rw [this, hDB]; grind
  rw [e, Ci hA]
  congr 2
  by_cases h0 : t = 0
  ·rw [hs, if_pos h0, Nat.add_zero, hN, h0, Nat.add_zero, Nat.mul_comm n, Ci hn, Nat.mul_comm 2 q, Nat.mul_comm 2 (2 ^ d), Ci (by omega)]
  ·rw [hs, if_neg h0, Pi hd0, H0 hN (by omega) ht hd0]
 ·intro hd1
  have hor : q ≤ q ||| s ∧ q ||| s ≤ q + 1 := by
   rcases Nat.eq_zero_or_pos s with h | h
   ·rw [h, Nat.or_zero]; omega
   ·have e1 : s = 1 := by omega
    rw [e1]
    have h2 : (q ||| 1) / 2 = q / 2 := by rw [Nat.or_div_two]; simp
    have h3 : (q ||| 1) % 2 = 1 := by rw [Nat.or_mod_two_eq_one]; simp
    omega
  have hup : q ||| s < 9007199254740992 * 2 ^ d := by
   rcases Nat.eq_zero_or_pos s with h | h
   ·rw [h, Nat.or_zero]; exact q2
   ·have e1 : s = 1 := by omega
    rw [e1]
    have h2 : (q ||| 1) / 2 = q / 2 := by rw [Nat.or_div_two]; simp
    obtain ⟨f, rfl⟩ : ∃ f, d = f + 1 := ⟨d - 1, by omega⟩
    rw [Nat.pow_succ] at q2 ⊢
    omega
  have hp : Bj ((q ||| s) * 2 ^ A) (2 ^ B) = D := by
   have e : ∀ C, C * 2 ^ D * 2 ^ B = C * 2 ^ d * 2 ^ A := by intro C; rw [Nat.mul_assoc, hDB, Nat.mul_assoc]
   refine Er hB ?_ ?_
   ·rcases q1 with h | h
    ·exact Or.inl h
    ·exact Or.inr (by rw [e]; exact Nat.mul_le_mul_right _ (by omega))
   ·rw [e]; exact Nat.mul_lt_mul_of_pos_right hup hA
  rw [hR]
  unfold rnd
  rw [hp, hDB, Ci hA]
  congr 2
  by_cases h0 : t = 0
  ·rw [hs, if_pos h0, Nat.or_zero, hN, h0, Nat.add_zero, Nat.mul_comm n, Ci hn]
  ·rw [hs, if_neg h0, Anj hd1, H0 hN (by omega) ht hd0]
theorem Sd {u W a : Nat} (h1 : a * W < 2 * u) (h2 : 2 * u < (a + 1) * W) : Dg u W = a / 2 + a % 2 := by
 have hW : 0 < W := by
  rcases Nat.eq_zero_or_pos W with h | h
  ·rw [h, Nat.mul_zero] at h2; omega
  ·exact h
 have e1 := Nat.div_add_mod u W
 have e2 := Nat.mod_lt u hW
 obtain ⟨q, hq⟩ : ∃ q, a / 2 = q := ⟨_, rfl⟩
 have key : u / W = q := by
  have l1 : q ≤ u / W := by
   rw [Nat.le_div_iff_mul_le hW]
   have : 2 * q * W ≤ a * W := Nat.mul_le_mul_right _ (by omega)
   have e : 2 * q * W = 2 * (q * W) := Nat.mul_assoc _ _ _
   omega
  have l2 : u / W < q + 1 := by
   rw [Nat.div_lt_iff_lt_mul hW]
   have : (a + 1) * W ≤ 2 * (q + 1) * W := Nat.mul_le_mul_right _ (by omega)
   have e : 2 * (q + 1) * W = 2 * ((q + 1) * W) := Nat.mul_assoc _ _ _
   omega
  omega
 unfold Dg
 rw [key, hq]
 rw [key] at e1
 generalize u % W = r at *
 rcases Nat.mod_two_eq_zero_or_one a with hp | hp
 ·have ha : a = 2 * q := by omega
  rw [ha, Nat.add_mul, Nat.one_mul, Nat.mul_assoc] at h2
  rw [Nat.mul_comm W q] at e1
  rw [hp, decide_eq_false (by omega), decide_eq_false (by omega)]
  rfl
 ·have ha : a = 2 * q + 1 := by omega
  rw [ha, Nat.add_mul, Nat.one_mul, Nat.mul_assoc] at h1
  rw [Nat.mul_comm W q] at e1
  rw [hp, decide_eq_true (by omega)]
  rfl
def Aod (u v u' v' : Nat) : Prop := ∀ c D, c ≤ 18014398509481984 → 2 * u ≤ c * 2 ^ D * v → c * 2 ^ D * v' ≤ 2 * u' → False
theorem Aj0 {u v u' v' : Nat} (hv : 0 < v) (hv' : 0 < v') (hle : u * v' ≤ u' * v) (H : Aod u v u' v') : rnd u v = rnd u' v' := by
 obtain ⟨D, hD⟩ : ∃ D, Bj u v = D := ⟨_, rfl⟩
 obtain ⟨s1, s2⟩ := Fo hv hD
 have hp := Nat.two_pow_pos D
 -- the place is the same
 have hD' : Bj u' v' = D := by
  refine Er hv' ?_ ?_
  ·rcases s1 with h | h
   ·exact Or.inl h
   ·refine Or.inr (Nat.le_of_mul_le_mul_right (c := v) ?_ hv)
    have a1 : 4503599627370496 * 2 ^ D * v * v' ≤ u * v' := Nat.mul_le_mul_right _ h
    have e : 4503599627370496 * 2 ^ D * v' * v = 4503599627370496 * 2 ^ D * v * v' := by grind
    omega
  ·rcases Nat.lt_or_ge u' (9007199254740992 * 2 ^ D * v') with h | h
   ·exact h
   ·exfalso
    rw [Nat.mul_assoc] at s2 h
    refine H 18014398509481984 D (Nat.le_refl _) ?_ ?_
    ·rw [Nat.mul_assoc]
     generalize 2 ^ D * v = X at *
     omega
    ·rw [Nat.mul_assoc]
     generalize 2 ^ D * v' = X at *
     omega
 -- and so are the halves
 obtain ⟨a, ha⟩ : ∃ a, 2 * u / (2 ^ D * v) = a := ⟨_, rfl⟩
 have hW : 0 < 2 ^ D * v := Nat.mul_pos hp hv
 have m1 := Nat.div_add_mod (2 * u) (2 ^ D * v)
 have m2 := Nat.mod_lt (2 * u) hW
 rw [ha] at m1
 have b1 : a * (2 ^ D * v) ≤ 2 * u := by rw [Nat.mul_comm a]; omega
 have b2 : 2 * u < (a + 1) * (2 ^ D * v) := by rw [Nat.add_mul, Nat.one_mul, Nat.mul_comm a]; omega
 have ha54 : a + 1 ≤ 18014398509481984 := by
  have h3 : a * (2 ^ D * v) < 18014398509481984 * (2 ^ D * v) := by
   have e : 18014398509481984 * (2 ^ D * v) = 2 * (9007199254740992 * 2 ^ D * v) := by grind
   omega
  have := Nat.lt_of_mul_lt_mul_right h3
  omega
 have sc : ∀ c, c * (2 ^ D * v) * v' = c * (2 ^ D * v') * v := by intro c; grind
 have up : ∀ c, c * (2 ^ D * v) ≤ 2 * u → c * (2 ^ D * v') ≤ 2 * u' := by
  intro c hc
  refine Nat.le_of_mul_le_mul_right (c := v) ?_ hv
  rw [← sc]
  have a1 : c * (2 ^ D * v) * v' ≤ 2 * u * v' := Nat.mul_le_mul_right _ hc
  have e1 : 2 * u * v' = 2 * (u * v') := Nat.mul_assoc _ _ _
  have e2 : 2 * u' * v = 2 * (u' * v) := Nat.mul_assoc _ _ _
  omega
 have c1 : a * (2 ^ D * v) < 2 * u := by
  rcases Nat.eq_or_lt_of_le b1 with h | h
  ·exfalso
   exact H a D (by omega) (by rw [Nat.mul_assoc, h]; exact Nat.le_refl _) (by rw [Nat.mul_assoc]; exact up a (Nat.le_of_eq h))
  ·exact h
 have c3 : 2 * u' < (a + 1) * (2 ^ D * v') := by
  rcases Nat.lt_or_ge (2 * u') ((a + 1) * (2 ^ D * v')) with h | h
  ·exact h
  ·exfalso
   exact H (a + 1) D ha54 (by rw [Nat.mul_assoc]; exact Nat.le_of_lt b2) (by rw [Nat.mul_assoc]; exact h)
 have c2 : a * (2 ^ D * v') < 2 * u' := by
  refine Nat.lt_of_mul_lt_mul_right (a := v) ?_
  rw [← sc]
  have a1 : a * (2 ^ D * v) * v' < 2 * u * v' := Nat.mul_lt_mul_of_pos_right c1 hv'
  have e1 : 2 * u * v' = 2 * (u * v') := Nat.mul_assoc _ _ _
  have e2 : 2 * u' * v = 2 * (u' * v) := Nat.mul_assoc _ _ _
  omega
 unfold rnd
 rw [hD, hD', Sd c1 b2, Sd c2 c3]
set_option exponentiation.threshold 2000 in
theorem Xt : ∀ K T : Nat, K = 1075 → T = 768 → 18014398509481984 * 5 ^ K < 10 ^ T := by
 intro K T hK hT
 subst hK
 subst hT
 decide +kernel
theorem Aif {c D K T : Nat} (hK : K = 1075) (hT : T = 768) (hc : c ≤ 18014398509481984) : ∃ C f : Nat, c * 2 ^ D * 10 ^ f = C * 2 ^ K ∧ (D < K → C < 10 ^ T) ∧ (K ≤ D → f = 0) := by
 rcases Nat.lt_or_ge D K with h | h
 ·obtain ⟨j, hj⟩ : ∃ j, K = D + j := ⟨K - D, by omega⟩
  refine ⟨c * 5 ^ j, j, ?_, fun _ => ?_, fun h2 => absurd h (by omega)⟩
  ·rw [hj, Nat.pow_add, show (10 : Nat) = 5 * 2 from rfl, Nat.mul_pow]
   grind
  ·refine Nat.lt_of_le_of_lt (Nat.le_trans (Nat.mul_le_mul_right _ hc) (Nat.mul_le_mul_left _ (Nat.pow_le_pow_right (by omega) (show j ≤ K by omega)))) (Xt K T hK hT)
 ·obtain ⟨j, hj⟩ : ∃ j, D = K + j := ⟨D - K, by omega⟩
  refine ⟨c * 2 ^ j, 0, ?_, fun h2 => absurd h (by omega), fun _ => rfl⟩
  rw [hj, Nat.pow_add, Nat.pow_zero, Nat.mul_one]
  grind
theorem Akp {p s t c D K T : Nat} (hK : K = 1075) (hT : T = 768) (hp : 10 ^ T ≤ p) (hc : c ≤ 18014398509481984) (h1 : p * 10 ^ s * 2 ^ K < c * 2 ^ D * 10 ^ t) (h2 : c * 2 ^ D * 10 ^ t < (p + 1) * 10 ^ s * 2 ^ K) (htop : (p + 1) * 10 ^ s ≤ 10 ^ T * 10 ^ t) : False := by
 obtain ⟨C, f, e1, e2, e3⟩ := Aif (D := D) hK hT hc
 have hTt := Nat.pow_pos (n := t) (show 0 < 10 by omega)
 have hF := Nat.pow_pos (n := f) (show 0 < 10 by omega)
 have hS := Nat.pow_pos (n := s) (show 0 < 10 by omega)
 have hU := Nat.two_pow_pos K
 -- in terms of C: p * 10^s * 10^f < C * 10^t < (p+1) * 10^s * 10^f
 have g1 : p * 10 ^ s * 10 ^ f < C * 10 ^ t := by
  refine Nat.lt_of_mul_lt_mul_right (a := 2 ^ K) ?_
  have a1 : p * 10 ^ s * 2 ^ K * 10 ^ f < c * 2 ^ D * 10 ^ t * 10 ^ f := Nat.mul_lt_mul_of_pos_right h1 hF
  have x1 : p * 10 ^ s * 10 ^ f * 2 ^ K = p * 10 ^ s * 2 ^ K * 10 ^ f := by grind
  have x2 : C * 10 ^ t * 2 ^ K = c * 2 ^ D * 10 ^ t * 10 ^ f := by
   have : c * 2 ^ D * 10 ^ t * 10 ^ f = c * 2 ^ D * 10 ^ f * 10 ^ t := by grind
   rw [this, e1]; grind
  omega
 have g2 : C * 10 ^ t < (p + 1) * 10 ^ s * 10 ^ f := by
  refine Nat.lt_of_mul_lt_mul_right (a := 2 ^ K) ?_
  have a1 : c * 2 ^ D * 10 ^ t * 10 ^ f < (p + 1) * 10 ^ s * 2 ^ K * 10 ^ f := Nat.mul_lt_mul_of_pos_right h2 hF
  have x1 : (p + 1) * 10 ^ s * 10 ^ f * 2 ^ K = (p + 1) * 10 ^ s * 2 ^ K * 10 ^ f := by grind
  have x2 : C * 10 ^ t * 2 ^ K = c * 2 ^ D * 10 ^ t * 10 ^ f := by
   have : c * 2 ^ D * 10 ^ t * 10 ^ f = c * 2 ^ D * 10 ^ f * 10 ^ t := by grind
   rw [this, e1]; grind
  omega
 have hC : C < 10 ^ T := by
  rcases Nat.lt_or_ge D K with h | h
  ·exact e2 h
  ·rw [e3 h, Nat.pow_zero, Nat.mul_one] at g2
   refine Nat.lt_of_mul_lt_mul_right (a := 10 ^ t) ?_
   omega
 rcases Nat.lt_or_ge (s + f) t with h | h
 ·-- p < C * 10^(t-s-f) < p + 1
  obtain ⟨j, hj⟩ : ∃ j, t = s + f + j := ⟨t - s - f, by omega⟩
  rw [hj, Nat.pow_add, Nat.pow_add] at g1 g2
  have y1 : C * (10 ^ s * 10 ^ f * 10 ^ j) = C * 10 ^ j * (10 ^ s * 10 ^ f) := by grind
  have y2 : (p + 1) * 10 ^ s * 10 ^ f = (p + 1) * (10 ^ s * 10 ^ f) := Nat.mul_assoc _ _ _
  have y3 : p * 10 ^ s * 10 ^ f = p * (10 ^ s * 10 ^ f) := Nat.mul_assoc _ _ _
  rw [y1, y2] at g2
  rw [y1, y3] at g1
  have z1 := Nat.lt_of_mul_lt_mul_right g1
  have z2 := Nat.lt_of_mul_lt_mul_right g2
  omega
 ·obtain ⟨j, hj⟩ : ∃ j, s + f = t + j := ⟨s + f - t, by omega⟩
  rw [Nat.mul_assoc, ← Nat.pow_add, hj, Nat.pow_add] at g1
  have y1 : p * (10 ^ t * 10 ^ j) = p * 10 ^ j * 10 ^ t := by grind
  rw [y1] at g1
  have z1 := Nat.lt_of_mul_lt_mul_right g1
  have z2 : p * 1 ≤ p * 10 ^ j := Nat.mul_le_mul_left _ (Nat.pow_pos (by omega))
  omega
theorem Afl {u u' W : Nat} (h : u ≤ u') : Dg u W ≤ Dg u' W := by
 have e1 := Nat.div_add_mod u W
 have e2 := Nat.div_add_mod u' W
 have hq : u / W ≤ u' / W := Nat.div_le_div_right h
 unfold Dg
 have hb : ∀ b : Bool, b.toNat ≤ 1 := Bool.toNat_le
 rcases Nat.eq_or_lt_of_le hq with h1 | h1
 ·rw [h1] at e1 ⊢
  have hr : u % W ≤ u' % W := by omega
  refine Nat.add_le_add_left ?_ _
  generalize u % W = r at *
  generalize u' % W = r' at *
  generalize u' / W = q at *
  by_cases c1 : W < 2 * r'
  ·rw [decide_eq_true c1, Bool.true_or]
   exact hb _
  ·rw [decide_eq_false c1, decide_eq_false (show ¬ W < 2 * r by omega), Bool.false_or, Bool.false_or]
   by_cases c2 : W = 2 * r
   ·rw [decide_eq_true c2, decide_eq_true (show W = 2 * r' by omega)]
    exact Nat.le_refl _
   ·rw [decide_eq_false c2, Bool.false_and]
    exact Nat.zero_le _
 ·have := hb (decide (W < 2 * (u % W)) || (decide (W = 2 * (u % W)) && decide (u / W % 2 = 1)))
  omega
theorem F5 {u u' v : Nat} (hv : 0 < v) (h : u ≤ u') : rnd u v ≤ rnd u' v := by
 obtain ⟨D, hD⟩ : ∃ D, Bj u v = D := ⟨_, rfl⟩
 obtain ⟨D', hD'⟩ : ∃ D', Bj u' v = D' := ⟨_, rfl⟩
 have hDD : D ≤ D' := by
  rw [← hD, ← hD']
  unfold Bj
  have h1 : u / v ≤ u' / v := Nat.div_le_div_right h
  rcases Nat.eq_zero_or_pos (u / v) with h0 | h0
  ·rw [h0, show Nat.log2 0 = 0 by decide]; omega
  ·have a1 := (Di _ h0).1
   have := (Nat.le_log2 (show u' / v ≠ 0 by omega)).2 (Nat.le_trans a1 h1)
   omega
 obtain ⟨s1, s2⟩ := Fo hv hD
 obtain ⟨s1', s2'⟩ := Fo hv hD'
 unfold rnd
 rw [hD, hD']
 refine Nat.le_min.2 ⟨Nat.le_trans (Nat.min_le_left _ _) ?_, Nat.min_le_right _ _⟩
 rcases Nat.eq_or_lt_of_le hDD with h1 | h1
 ·rw [← h1]
  have hm := Afl (W := 2 ^ D * v) h
  exact Nat.add_le_add_left hm _
 ·have c1 : Dg u (2 ^ D * v) ≤ 9007199254740992 := Ac9 (Nat.mul_pos (Nat.two_pow_pos D) hv) (by rw [← Nat.mul_assoc]; exact Nat.le_of_lt s2)
  have c2 : 4503599627370496 ≤ Dg u' (2 ^ D' * v) := Nx (Nat.mul_pos (Nat.two_pow_pos D') hv) (by rw [← Nat.mul_assoc]; exact s1'.resolve_left (by omega))
  have c3 : (D + 1) * 4503599627370496 ≤ D' * 4503599627370496 := Nat.mul_le_mul_right _ h1
  generalize Dg u (2 ^ D * v) = x at *
  generalize Dg u' (2 ^ D' * v) = y at *
  omega
theorem Ve {u v u' v' : Nat} (hv : 0 < v) (hv' : 0 < v') (h : u * v' ≤ u' * v) : rnd u v ≤ rnd u' v' := by
 rw [← Iw (u := u) (v := v) hv', ← Iw (u := u') (v := v') hv, Nat.mul_comm v' v]
 exact F5 (Nat.mul_pos hv hv') h
theorem Dr (r : Nat) : ∃ D c, r = D * 4503599627370496 + c ∧ c < 9007199254740992 ∧ (D = 0 ∨ 4503599627370496 ≤ c) ∧ Ac r = c * 2 ^ D ∧ Ac (r + 1) = (c + 1) * 2 ^ D := by
 obtain ⟨c, D, h1, h2, h3, h4⟩ := Age r
 refine ⟨D, c, h1, h3, h4, h2, ?_⟩
 rcases Nat.eq_or_lt_of_le (show c + 1 ≤ 9007199254740992 by omega) with h | h
 ·have e : r + 1 = (D + 1) * 4503599627370496 + 4503599627370496 := by omega
  rw [e, Az _ _ (by omega) (by omega), h, Nat.pow_succ, Nat.mul_comm (2 ^ D) 2, ← Nat.mul_assoc]
 ·rcases h4 with h5 | h5
  ·have e : r + 1 = c + 1 := by rw [h1, h5]; omega
   rw [e, h5, Nat.pow_zero, Nat.mul_one]
   exact Ey h
  ·have e : r + 1 = D * 4503599627370496 + (c + 1) := by omega
   rw [e, Az _ _ (by omega) h]
theorem Pm {u v r : Nat} (hv : 0 < v) (hr : r < 9218868437227405312) (h1 : Ac r * v ≤ u) (h2 : u < Ac (r + 1) * v) :
  rnd u v = if 2 * u < (Ac r + Ac (r + 1)) * v then r else if 2 * u = (Ac r + Ac (r + 1)) * v ∧ r % 2 = 0 then r else r + 1 := by
 obtain ⟨D, c, e1, e2, e3, e4, e5⟩ := Dr r
 have hp := Nat.two_pow_pos D
 rw [e4] at h1
 rw [e5] at h2
 rw [e4, e5]
 have hpl : Bj u v = D := by
  refine Er hv ?_ ?_
  ·rcases e3 with h | h
   ·exact Or.inl h
   ·exact Or.inr (Nat.le_trans (Nat.mul_le_mul_right _ (Nat.mul_le_mul_right _ h)) h1)
  ·exact Nat.lt_of_lt_of_le h2 (Nat.mul_le_mul_right _ (Nat.mul_le_mul_right _ (by omega)))
 obtain ⟨W, hW⟩ : ∃ W, 2 ^ D * v = W := ⟨_, rfl⟩
 have hW0 : 0 < W := by rw [← hW]; exact Nat.mul_pos hp hv
 rw [Nat.mul_assoc, hW] at h1
 rw [Nat.mul_assoc, hW, Nat.add_mul, Nat.one_mul] at h2
 have hS : (c * 2 ^ D + (c + 1) * 2 ^ D) * v = 2 * (c * W) + W := by
  rw [← hW]; grind
 rw [hS]
 have hq : u / W = c := by
  have l1 : c ≤ u / W := (Nat.le_div_iff_mul_le hW0).2 h1
  have l2 : u / W < c + 1 := (Nat.div_lt_iff_lt_mul hW0).2 (by rw [Nat.add_mul, Nat.one_mul]; exact h2)
  omega
 have hm := Nat.div_add_mod u W
 rw [hq, Nat.mul_comm W c] at hm
 have hpar : r % 2 = c % 2 := by omega
 have hrnd : rnd u v = min (D * 4503599627370496 + Dg u W) 9218868437227405312 := by unfold rnd; rw [hpl, hW]
 rw [hrnd]
 unfold Dg
 rw [hq]
 generalize u % W = t at *
 generalize c * W = X at *
 have top : ∀ z, z ≤ 9218868437227405312 → min z 9218868437227405312 = z := fun z hz => Nat.min_eq_left hz
 by_cases k1 : 2 * u < 2 * X + W
 ·rw [if_pos k1, decide_eq_false (by omega), decide_eq_false (by omega), Bool.false_and, Bool.or_false]
  rw [Bool.toNat_false, Nat.add_zero, ← e1]
  exact top r (Nat.le_of_lt hr)
 ·rw [if_neg k1]
  by_cases k2 : 2 * u = 2 * X + W
  ·rw [decide_eq_false (show ¬ W < 2 * t by omega), decide_eq_true (show W = 2 * t by omega), Bool.false_or, Bool.true_and]
   rcases Nat.mod_two_eq_zero_or_one c with hc | hc
   ·rw [if_pos ⟨k2, by omega⟩, decide_eq_false (by omega), Bool.toNat_false, Nat.add_zero, ← e1]
    exact top r (Nat.le_of_lt hr)
   ·rw [if_neg (by omega), decide_eq_true hc, Bool.toNat_true, ← Nat.add_assoc, ← e1]
    exact top (r + 1) hr
  ·rw [if_neg (fun h => k2 h.1), decide_eq_true (show W < 2 * t by omega), Bool.true_or, Bool.toNat_true, ← Nat.add_assoc, ← e1]
   exact top (r + 1) hr
theorem J2 {v r : Nat} (hv : 0 < v) (hr : r < 9218868437227405312) : rnd (Ac r * v) v = r := by
 have hlt : Ac r < Ac (r + 1) := Bz (by omega)
 have h1 : Ac r * v < Ac (r + 1) * v := Nat.mul_lt_mul_of_pos_right hlt hv
 rw [Pm hv hr (Nat.le_refl _) h1, if_pos]
 rw [Nat.add_mul]; omega
theorem Nc {u v : Nat} (hv : 0 < v) (h : Ac 9218868437227405312 * v ≤ u) : rnd u v = 9218868437227405312 := by
 have h1 : rnd (Ac 9218868437227405312 * v) v = 9218868437227405312 := by
  obtain ⟨D, c, e1, e2, e3, e4, _⟩ := Dr 9218868437227405312
  have hp := Nat.two_pow_pos D
  have hc : 4503599627370496 ≤ c := by
   rcases e3 with h | h
   ·rw [h, Nat.zero_mul, Nat.zero_add] at e1; omega
   ·exact h
  have hpl : Bj (Ac 9218868437227405312 * v) v = D := by
   rw [e4]
   refine Er hv (Or.inr (Nat.mul_le_mul_right _ (Nat.mul_le_mul_right _ hc))) (Nat.mul_lt_mul_of_pos_right (Nat.mul_lt_mul_of_pos_right e2 hp) hv)
  unfold rnd
  rw [hpl, e4, Nat.mul_assoc]
  have : c ≤ Dg (c * (2 ^ D * v)) (2 ^ D * v) := Nx (Nat.mul_pos hp hv) (Nat.le_refl _)
  refine Nat.min_eq_right ?_
  rw [e1]
  exact Nat.add_le_add_left this _
 have h2 := F5 hv h
 rw [h1] at h2
 have h3 : rnd u v ≤ 9218868437227405312 := Nat.min_le_right _ _
 exact Nat.le_antisymm h3 h2
theorem Amf {u v r : Nat} (hv : 0 < v) (h0 : 0 < r) (hr : r < 9218868437227405312) :
  rnd u v = r ↔ ((Ac (r - 1) + Ac r) * v < 2 * u ∨ ((Ac (r - 1) + Ac r) * v = 2 * u ∧ r % 2 = 0)) ∧ (2 * u < (Ac r + Ac (r + 1)) * v ∨ (2 * u = (Ac r + Ac (r + 1)) * v ∧ r % 2 = 0)) := by
 obtain ⟨p, rfl⟩ : ∃ p, r = p + 1 := ⟨r - 1, by omega⟩
 rw [Nat.add_sub_cancel]
 have l1 : Ac p * v < Ac (p + 1) * v := Nat.mul_lt_mul_of_pos_right (Bz (by omega)) hv
 have l2 : Ac (p + 1) * v < Ac (p + 1 + 1) * v := Nat.mul_lt_mul_of_pos_right (Bz (by omega)) hv
 have s1 : (Ac p + Ac (p + 1)) * v = Ac p * v + Ac (p + 1) * v := Nat.add_mul _ _ _
 have s2 : (Ac (p + 1) + Ac (p + 1 + 1)) * v = Ac (p + 1) * v + Ac (p + 1 + 1) * v := Nat.add_mul _ _ _
 rcases Nat.lt_or_ge u (Ac (p + 1) * v) with hlt | hge
 ·rcases Nat.lt_or_ge u (Ac p * v) with hlow | hlow
  ·-- below the lower neighbour
   constructor
   ·intro h
    have := F5 hv (Nat.le_of_lt hlow)
    rw [J2 hv (by omega), h] at this
    omega
   ·intro h; omega
  ·rw [Pm hv (by omega) hlow hlt]
   constructor
   ·intro h
    by_cases k1 : 2 * u < (Ac p + Ac (p + 1)) * v
    ·rw [if_pos k1] at h; omega
    ·rw [if_neg k1] at h
     by_cases k2 : 2 * u = (Ac p + Ac (p + 1)) * v ∧ p % 2 = 0
     ·rw [if_pos k2] at h; omega
     ·refine ⟨?_, Or.inl (by omega)⟩
      rcases Nat.lt_or_ge ((Ac p + Ac (p + 1)) * v) (2 * u) with h3 | h3
      ·exact Or.inl h3
      ·refine Or.inr ⟨by omega, ?_⟩
       have : ¬ p % 2 = 0 := fun hp => k2 ⟨by omega, hp⟩
       omega
   ·rintro ⟨h, _⟩
    rw [if_neg (by omega), if_neg (by omega)]
 ·rcases Nat.lt_or_ge u (Ac (p + 1 + 1) * v) with hup | hup
  ·rw [Pm hv hr hge hup]
   constructor
   ·intro h
    refine ⟨Or.inl (by omega), ?_⟩
    by_cases k1 : 2 * u < (Ac (p + 1) + Ac (p + 1 + 1)) * v
    ·exact Or.inl k1
    ·rw [if_neg k1] at h
     by_cases k2 : 2 * u = (Ac (p + 1) + Ac (p + 1 + 1)) * v ∧ (p + 1) % 2 = 0
     ·exact Or.inr k2
     ·rw [if_neg k2] at h; omega
   ·rintro ⟨_, h⟩
    rcases h with h | h
    ·rw [if_pos h]
    ·rw [if_neg (by omega), if_pos h]
  ·constructor
   ·intro h
    exfalso
    rcases Nat.eq_or_lt_of_le (show p + 1 + 1 ≤ 9218868437227405312 by omega) with h3 | h3
    ·rw [h3] at hup
     rw [Nc hv hup] at h
     omega
    ·have := F5 hv hup
     rw [J2 hv h3, h] at this
     omega
   ·intro h; omega
theorem Lp {S w c : Nat} {ev : Bool} (hw : 0 < w) : (S < c * w ∨ (S = c * w ∧ ev = true)) ↔ S / w + (if S % w = 0 ∧ ev = true then 0 else 1) ≤ c := by
 have e1 := Nat.div_add_mod S w
 have e2 := Nat.mod_lt S hw
 obtain ⟨f, hf⟩ : ∃ f, S / w = f := ⟨_, rfl⟩
 rw [hf, Nat.mul_comm] at e1
 rw [hf]
 have a1 : S < c * w ↔ f + 1 ≤ c := by
  constructor
  ·intro h
   rcases Nat.lt_or_ge f c with h1 | h1
   ·exact h1
   ·have : c * w ≤ f * w := Nat.mul_le_mul_right _ h1
    omega
  ·intro h
   have : (f + 1) * w ≤ c * w := Nat.mul_le_mul_right _ h
   rw [Nat.add_mul, Nat.one_mul] at this
   omega
 have a2 : S = c * w ↔ S % w = 0 ∧ f = c := by
  constructor
  ·intro h
   have h1 : S % w = 0 := by rw [h, Nat.mul_mod_left]
   refine ⟨h1, ?_⟩
   rw [← hf, h, Nat.mul_div_cancel _ hw]
  ·rintro ⟨h1, h2⟩
   rw [h1, Nat.add_zero, h2] at e1
   exact e1.symm
 rw [a1, a2]
 by_cases h : S % w = 0 ∧ ev = true
 ·rw [if_pos h]
  have h1 := h.1
  have h2 := h.2
  constructor
  ·rintro (h3 | ⟨⟨_, h3⟩, _⟩) <;> omega
  ·intro h3
   rcases Nat.eq_or_lt_of_le (show f ≤ c by omega) with h4 | h4
   ·exact Or.inr ⟨⟨h1, h4⟩, h2⟩
   ·exact Or.inl h4
 ·rw [if_neg h]
  constructor
  ·rintro (h3 | ⟨⟨h3, _⟩, h4⟩)
   ·exact h3
   ·exact absurd ⟨h3, h4⟩ h
  ·intro h3; exact Or.inl h3
theorem P0 {S w c : Nat} {ev : Bool} (hw : 0 < w) : (c * w < S ∨ (c * w = S ∧ ev = true)) ↔ c + (if S % w = 0 ∧ ev = false then 1 else 0) ≤ S / w := by
 have e1 := Nat.div_add_mod S w
 have e2 := Nat.mod_lt S hw
 obtain ⟨f, hf⟩ : ∃ f, S / w = f := ⟨_, rfl⟩
 rw [hf, Nat.mul_comm] at e1
 rw [hf]
 have a1 : c * w ≤ S ↔ c ≤ f := by
  rw [← hf, Nat.le_div_iff_mul_le hw]
 have a2 : c * w = S ↔ S % w = 0 ∧ c = f := by
  constructor
  ·intro h
   have h1 : S % w = 0 := by rw [← h, Nat.mul_mod_left]
   refine ⟨h1, ?_⟩
   rw [← hf, ← h, Nat.mul_div_cancel _ hw]
  ·rintro ⟨h1, h2⟩
   rw [h1, Nat.add_zero] at e1
   rw [h2]
   exact e1
 have a3 : c * w < S ↔ c ≤ f ∧ ¬ (S % w = 0 ∧ c = f) := by
  rw [← a1, ← a2]
  omega
 rw [a3, a2]
 cases ev
 ·by_cases h : S % w = 0
  ·rw [if_pos ⟨h, rfl⟩]
   constructor
   ·rintro (⟨h1, h2⟩ | ⟨_, h2⟩)
    ·have : c ≠ f := fun h3 => h2 ⟨h, h3⟩
     omega
    ·cases h2
   ·intro h1; exact Or.inl ⟨by omega, fun h2 => by omega⟩
  ·rw [if_neg (fun h1 => h h1.1)]
   constructor
   ·rintro (⟨h1, _⟩ | ⟨⟨h1, _⟩, _⟩)
    ·exact h1
    ·exact absurd h1 h
   ·intro h1; exact Or.inl ⟨h1, fun h2 => h h2.1⟩
 ·rw [if_neg (by simp)]
  constructor
  ·rintro (⟨h1, _⟩ | ⟨⟨_, h1⟩, _⟩) <;> omega
  ·intro h1
   by_cases h2 : S % w = 0 ∧ c = f
   ·exact Or.inr ⟨h2, rfl⟩
   ·exact Or.inl ⟨h1, h2⟩
theorem Em {a b c d : Nat} (hb : 0 < b) (hd : 0 < d) (h : a * d = c * b) : a / b = c / d ∧ (2 * (a % b) < b ↔ 2 * (c % d) < d) ∧ (2 * (a % b) = b ↔ 2 * (c % d) = d) := by
 have h1 : a * d / (b * d) = a / b := Nat.mul_div_mul_right _ _ hd
 have h2 : c * b / (d * b) = c / d := Nat.mul_div_mul_right _ _ hb
 have h3 : a * d % (b * d) = a % b * d := Nat.mul_mod_mul_right _ _ _
 have h4 : c * b % (d * b) = c % d * b := Nat.mul_mod_mul_right _ _ _
 rw [h, Nat.mul_comm b d] at h1 h3
 rw [h2] at h1
 rw [h4] at h3
 refine ⟨h1.symm, ?_, ?_⟩
 ·have e1 : 2 * (a % b) < b ↔ 2 * (a % b * d) < b * d := by
   rw [← Nat.mul_assoc]; exact (Nat.mul_lt_mul_right hd).symm
  have e2 : 2 * (c % d) < d ↔ 2 * (c % d * b) < d * b := by
   rw [← Nat.mul_assoc]; exact (Nat.mul_lt_mul_right hb).symm
  rw [e1, e2, h3, Nat.mul_comm b d]
 ·have e1 : 2 * (a % b) = b ↔ 2 * (a % b * d) = b * d := by
   rw [← Nat.mul_assoc]
   exact ⟨fun x => by rw [x], fun x => Nat.eq_of_mul_eq_mul_right hd x⟩
  have e2 : 2 * (c % d) = d ↔ 2 * (c % d * b) = d * b := by
   rw [← Nat.mul_assoc]
   exact ⟨fun x => by rw [x], fun x => Nat.eq_of_mul_eq_mul_right hb x⟩
  rw [e1, e2, h3, Nat.mul_comm b d]
theorem Aem {U V half : Nat} (hV : 0 < V) : U / (V * (2 * half)) = U / V / (2 * half) ∧ (2 * (U % (V * (2 * half))) < V * (2 * half) ↔ U / V % (2 * half) < half) ∧ (2 * (U % (V * (2 * half))) = V * (2 * half) ↔ U / V % (2 * half) = half ∧ U % V = 0) := by
 refine ⟨(Nat.div_div_eq_div_mul U V (2 * half)).symm, ?_⟩
 rw [Nat.mod_mul]
 have ht := Nat.mod_lt U hV
 generalize U % V = t at *
 generalize U / V % (2 * half) = h at *
 have e : V * (2 * half) = 2 * (V * half) := by grind
 rw [e]
 constructor
 ·constructor
  ·intro h1
   have h2 : V * h < V * half := by omega
   exact Nat.lt_of_mul_lt_mul_left h2
  ·intro h1
   have h2 : V * (h + 1) ≤ V * half := Nat.mul_le_mul_left _ h1
   rw [Nat.mul_add, Nat.mul_one] at h2
   omega
 ·constructor
  ·intro h1
   have h2 : t + V * h = V * half := by omega
   have h3 : h = half := by
    rcases Nat.lt_trichotomy h half with h4 | h4 | h4
    ·have h5 : V * (h + 1) ≤ V * half := Nat.mul_le_mul_left _ h4
     rw [Nat.mul_add, Nat.mul_one] at h5
     omega
    ·exact h4
    ·have h5 : V * (half + 1) ≤ V * h := Nat.mul_le_mul_left _ h4
     rw [Nat.mul_add, Nat.mul_one] at h5
     omega
   rw [h3] at h2
   exact ⟨h3, by omega⟩
  ·rintro ⟨h1, h2⟩
   rw [h1, h2]; omega
theorem Ago {A B r : Nat} (hA : 0 < A) (hB : 0 < B) (h0 : 0 < r) (hr : r < 9218868437227405312) {S1 S2 : Nat} (h1 : S1 = Ac (r - 1) + Ac r) (h2 : S2 = Ac r + Ac (r + 1)) (c : Nat) :
  rnd (c * A) B = r ↔ S1 * B / (2 * A) + (if S1 * B % (2 * A) = 0 ∧ (decide (r % 2 = 0)) = true then 0 else 1) ≤ c ∧ c + (if S2 * B % (2 * A) = 0 ∧ (decide (r % 2 = 0)) = false then 1 else 0) ≤ S2 * B / (2 * A) := by
 rw [Amf hB h0 hr, ← h1, ← h2]
 have e : 2 * (c * A) = c * (2 * A) := by grind
 rw [e, ← Lp (ev := decide (r % 2 = 0)) (Nat.mul_pos (by omega) hA), ← P0 (ev := decide (r % 2 = 0)) (Nat.mul_pos (by omega) hA)]
 simp only [decide_eq_true_eq]
theorem Lb {u v u' v' : Nat} (hv : 0 < v) (hv' : 0 < v') (h : u * v' = u' * v) : rnd u v = rnd u' v' := by
 rw [← Iw (u := u) (v := v) hv', ← Iw (u := u') (v := v') hv, h, Nat.mul_comm v' v]
theorem Aqd {r : Nat} (h0 : 0 < r) : Ac r ≤ 9007199254740992 * (Ac r - Ac (r - 1)) ∧ Ac r ≤ 9007199254740992 * (Ac (r + 1) - Ac r) := by
 obtain ⟨D, c, e1, e2, e3, e4, e5⟩ := Dr r
 have hp := Nat.two_pow_pos D
 have hup : Ac (r + 1) - Ac r = 2 ^ D := by rw [e4, e5, Nat.add_mul, Nat.one_mul]; omega
 have hle : c * 2 ^ D ≤ 9007199254740992 * 2 ^ D := Nat.mul_le_mul_right _ (by omega)
 refine ⟨?_, by rw [hup, e4]; exact hle⟩
 obtain ⟨D', c', f1, f2, f3, f4, f5⟩ := Dr (r - 1)
 rw [show r - 1 + 1 = r by omega] at f5
 have hp' := Nat.two_pow_pos D'
 have hdn : Ac r - Ac (r - 1) = 2 ^ D' := by rw [f4, f5, Nat.add_mul, Nat.one_mul]; omega
 rw [hdn]
 rw [f5]
 exact Nat.mul_le_mul_right _ (by omega)
theorem Abt {A B r : Nat} (hA : 0 < A) (hB : 0 < B) (h0 : 0 < r) (hbig : 100000000000000000 * A ≤ Ac r * B) {S1 S2 : Nat} (h1 : S1 = Ac (r - 1) + Ac r) (h2 : S2 = Ac r + Ac (r + 1)) :
  ∃ c, S1 * B < 2 * (10 * c * A) ∧ 2 * (10 * c * A) < S2 * B := by
 obtain ⟨g1, g2⟩ := Aqd h0
 have k1 : Ac (r - 1) < Ac r := Bz (by omega)
 have k2 : Ac r < Ac (r + 1) := Bz (by omega)
 obtain ⟨X, hX⟩ : ∃ X, Ac r = X := ⟨_, rfl⟩
 rw [hX] at g1 g2 k1 k2 hbig h1 h2
 obtain ⟨a, ha⟩ : ∃ a, X = Ac (r - 1) + a := ⟨X - Ac (r - 1), by omega⟩
 obtain ⟨b, hb⟩ : ∃ b, Ac (r + 1) = X + b := ⟨Ac (r + 1) - X, by omega⟩
 rw [show X - Ac (r - 1) = a by omega] at g1
 rw [show Ac (r + 1) - X = b by omega] at g2
 -- the ends, in units of B
 have e1 : S1 * B + a * B = 2 * (X * B) := by rw [h1, ← Nat.add_mul, show Ac (r - 1) + X + a = 2 * X by omega, Nat.mul_assoc]
 have e2 : S2 * B = 2 * (X * B) + b * B := by rw [h2, hb, show X + (X + b) = 2 * X + b by omega, Nat.add_mul, Nat.mul_assoc]
 have a1 : X * B ≤ 9007199254740992 * (a * B) := by rw [← Nat.mul_assoc]; exact Nat.mul_le_mul_right _ g1
 have a2 : X * B ≤ 9007199254740992 * (b * B) := by rw [← Nat.mul_assoc]; exact Nat.mul_le_mul_right _ g2
 have pa : 0 < a * B := Nat.mul_pos (by omega) hB
 have pb : 0 < b * B := Nat.mul_pos (by omega) hB
 -- the greatest multiple of 20 A below the lower end
 obtain ⟨q, hq⟩ : ∃ q, S1 * B / (2 * (10 * A)) = q := ⟨_, rfl⟩
 have hw : 0 < 2 * (10 * A) := by omega
 have m1 := Nat.div_add_mod (S1 * B) (2 * (10 * A))
 have m2 := Nat.mod_lt (S1 * B) hw
 rw [hq] at m1
 refine ⟨q + 1, ?_, ?_⟩
 ·have e : 2 * (10 * (q + 1) * A) = 2 * (10 * A) * q + 2 * (10 * A) := by grind
  omega
 ·have e : 2 * (10 * (q + 1) * A) = 2 * (10 * A) * q + 2 * (10 * A) := by grind
  -- 20 A is less than both halves of the ways together
  omega
def Da (A B r : Nat) : Nat := (Ac (r - 1) + Ac r) * B / (2 * A) + (if (Ac (r - 1) + Ac r) * B % (2 * A) = 0 ∧ decide (r % 2 = 0) = true then 0 else 1)
def Eo (A B r c : Nat) : Prop := c + (if (Ac r + Ac (r + 1)) * B % (2 * A) = 0 ∧ decide (r % 2 = 0) = false then 1 else 0) ≤ (Ac r + Ac (r + 1)) * B / (2 * A)
theorem Ym {A B r : Nat} (hA : 0 < A) (hB : 0 < B) (h0 : 0 < r) (hr : r < 9218868437227405312) (c : Nat) : rnd (c * A) B = r ↔ Da A B r ≤ c ∧ Eo A B r c := by
 unfold Da Eo
 exact Ago hA hB h0 hr rfl rfl c
theorem Ahy {A B r c : Nat} (hA : 0 < A) (hB : 0 < B) (hc : c * A ≤ Ac r * B) : Eo A B r c := by
 unfold Eo
 rw [← P0 (ev := decide (r % 2 = 0)) (Nat.mul_pos (by omega) hA)]
 refine Or.inl ?_
 have k2 : Ac r < Ac (r + 1) := Bz (by omega)
 have h1 : (Ac r + Ac r) * B < (Ac r + Ac (r + 1)) * B := Nat.mul_lt_mul_of_pos_right (by omega) hB
 have e : c * (2 * A) = 2 * (c * A) := by grind
 have e2 : (Ac r + Ac r) * B = 2 * (Ac r * B) := by grind
 omega
theorem Ahs {A B r c : Nat} (hA : 0 < A) (h0 : 0 < r) (hB : 0 < B) (hc : Ac r * B < c * A) : Da A B r ≤ c := by
 unfold Da
 rw [← Lp (ev := decide (r % 2 = 0)) (Nat.mul_pos (by omega) hA)]
 refine Or.inl ?_
 have k1 : Ac (r - 1) < Ac r := Bz (by omega)
 have h1 : (Ac (r - 1) + Ac r) * B ≤ (Ac r + Ac r) * B := Nat.mul_le_mul_right _ (by omega)
 have e : c * (2 * A) = 2 * (c * A) := by grind
 have e2 : (Ac r + Ac r) * B = 2 * (Ac r * B) := by grind
 have := hB
 omega
theorem Adg {A B r unit : Nat} (hA : 0 < A) (hB : 0 < B) (h0 : 0 < r) (hr : r < 9218868437227405312) : rnd (Ac r * B / A / unit * unit * A) B = r ↔ Da A B r ≤ Ac r * B / A / unit * unit := by
 rw [Ym hA hB h0 hr]
 refine ⟨fun h => h.1, fun h => ⟨h, Ahy hA hB ?_⟩⟩
 have h1 : Ac r * B / A / unit * unit ≤ Ac r * B / A := Nat.div_mul_le_self _ _
 exact Nat.le_trans (Nat.mul_le_mul_right _ h1) (Nat.div_mul_le_self _ _)
theorem U5 {A B r unit : Nat} (hA : 0 < A) (hB : 0 < B) (hu : 0 < unit) (h0 : 0 < r) (hr : r < 9218868437227405312) : rnd ((Ac r * B / A / unit + 1) * unit * A) B = r ↔ Eo A B r ((Ac r * B / A / unit + 1) * unit) := by
 rw [Ym hA hB h0 hr]
 refine ⟨fun h => h.2, fun h => ⟨Ahs hA h0 hB ?_, h⟩⟩
 obtain ⟨H, hH⟩ : ∃ H, Ac r * B / A = H := ⟨_, rfl⟩
 rw [hH]
 have h1 : H < (H / unit + 1) * unit := by
  have e1 := Nat.div_add_mod H unit
  have e2 := Nat.mod_lt H hu
  rw [Nat.add_mul, Nat.one_mul, Nat.mul_comm (H / unit)]
  omega
 have h2 : Ac r * B < (H + 1) * A := by
  rw [← hH]
  have e1 := Nat.div_add_mod (Ac r * B) A
  have e2 := Nat.mod_lt (Ac r * B) hA
  rw [Nat.add_mul, Nat.one_mul, Nat.mul_comm (Ac r * B / A)]
  omega
 exact Nat.lt_of_lt_of_le h2 (Nat.mul_le_mul_right _ h1)
theorem Aez {A B r : Nat} (hA : 0 < A) (hB : 0 < B) (h0 : 0 < r) (hbig : 100000000000000000 * A ≤ Ac r * B) :
  Da A B r ≤ Ac r * B / A / 10 * 10 ∨ Eo A B r ((Ac r * B / A / 10 + 1) * 10) := by
 obtain ⟨c, c1, c2⟩ := Abt hA hB h0 hbig rfl rfl
 have w : 0 < 2 * A := Nat.mul_pos (by omega) hA
 have l1 : Da A B r ≤ 10 * c := by
  unfold Da
  rw [← Lp (ev := decide (r % 2 = 0)) w]
  refine Or.inl ?_
  have e : 10 * c * (2 * A) = 2 * (10 * c * A) := by grind
  omega
 have m1 : Eo A B r (10 * c) := by
  unfold Eo
  rw [← P0 (ev := decide (r % 2 = 0)) w]
  refine Or.inl ?_
  have e : 10 * c * (2 * A) = 2 * (10 * c * A) := by grind
  omega
 obtain ⟨H, hH⟩ : ∃ H, Ac r * B / A = H := ⟨_, rfl⟩
 rw [hH]
 rcases Nat.lt_or_ge (H / 10) c with h | h
 ·right
  unfold Eo at m1 ⊢
  have : (H / 10 + 1) * 10 ≤ 10 * c := by omega
  omega
 ·left
  have : 10 * c ≤ H / 10 * 10 := by omega
  omega
end
end Go.Proofs.YtmakhfekiieneaaGreatDoor
