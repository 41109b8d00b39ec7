/-
  Merged texts (Te, Wa, Wb, Wc, Sb, Se, Tf, Wd, We, Wl, Wm, Wn, Wo, Wp, Wq, E2, Ta, Tb, Td, Tg, Th, Ti, Tk, Tl, Tm, Tn, To, Tp, Tr, Yi, H1, Ad, H2, H3, P1, Ee, Ef, P2).
-/
import Derived.Test.YtmakhfekiieneaaGreatDoorQmc
import Derived.Laws.Cover2
open Go.RowKit
set_option maxRecDepth 100000
set_option maxHeartbeats 40000000
namespace Go.Proofs.YtmakhfekiieneaaGreatDoor
section
theorem E3 {w : World} {A : Option Addr} {n c m : Nat} (t : Int) (hA : NV w A n c m) (hm : bln m ≤ 6000) (ht1 : -2000 ≤ t) (ht : t ≤ 2000) :
  Cp 186 #[.slice A n c, .int .i64 t] w (NRet (m * 5 ^ t.toNat) w) := by
 have hp := Fv t.toNat
 obtain ⟨k, hk⟩ : ∃ k, t.toNat = k := ⟨_, rfl⟩
 rw [hk] at hp ⊢
 have C1 := Lh (fun W => Ah1 5 k W (by omega) (by omega) (by omega))
 have C2 := Lh (fun W C k2 d (h : NV W C k2 d (5 ^ k)) (g : NV W A n c m) => Ahx g h (by omega) (by omega))
 have H := Lh hA
 have e0 : max t 0 = (k : Int) := by omega
 clear hA hp hk hm ht1 ht
 go_enter Tryz.func186, Tryz.ntmps186
 go_wp2_with fail
 refine (C1.out _).mono ?_
 rintro e w1 ⟨A1, n1, c1, rfl, g1, b1⟩
 have G1 := Lh g1
 have G0 := Lh (H.out.step b1)
 have B1 := Lh b1
 clear g1 b1
 go_wp2_with fail
 refine (C2.out _ _ _ _ G1.out G0.out).mono ?_
 rintro e w2 ⟨A2, n2, c2, rfl, g2, b2⟩
 have G2 := Lh g2
 have B2 := Lh b2
 clear g2 b2
 go_wp2
 go_ret
 exact ⟨A2, n2, c2, rfl, G2.out, Aa B1.out B2.out⟩
def Afs (a b : Nat) (w : World) (e : Ending) (w' : World) : Prop := ∃ A n c, e = .returned (.tuple #[.slice A n c, .bool (decide (a % b = 0))]) ∧ NV w' A n c (a / b) ∧ Below w.heap.size w w'
theorem Aci {v n : Nat} (h : (wds v).length = n) : ((n : Int) == 0) = decide (v = 0) := by
 by_cases h0 : v = 0
 ·rw [h0] at h
  have : n = 0 := by rw [← h]; rfl
  rw [this, h0]; rfl
 ·have h1 : (wds v) ≠ [] := by
   intro e
   have := Ao v
   rw [e] at this
   exact h0 this.symm
  have h2 := List.length_pos_iff.2 h1
  rw [decide_eq_false h0, beq_eq_false_iff_ne]
  omega
theorem Km {w : World} {A C : Option Addr} {n c m d a b : Nat} (t : Int) (hA : NV w A n c a) (hC : NV w C m d b) (ha : bln a ≤ 6000) (hb : bln b ≤ 6000) (h0 : 0 < b) (ht1 : -8000 ≤ t) (ht : t ≤ 8000) :
  Cp 188 #[.slice A n c, .slice C m d, .int .i64 t] w (Afs (a * 2 ^ t.toNat) (b * 2 ^ (-t).toNat) w) := by
 have hp1 := Lg t.toNat
 have hp2 := Lg (-t).toNat
 have hm1 := Gj a (2 ^ t.toNat)
 have hm2 := Gj b (2 ^ (-t).toNat)
 have h00 : 0 < b * 2 ^ (-t).toNat := Nat.mul_pos h0 (As _)
 obtain ⟨x, hx⟩ : ∃ x, t.toNat = x := ⟨_, rfl⟩
 obtain ⟨y, hy⟩ : ∃ y, (-t).toNat = y := ⟨_, rfl⟩
 rw [hx] at hp1 hm1 ⊢
 rw [hy] at hp2 hm2 h00 ⊢
 have C1 := Lh (fun W (h : NV W A n c a) => Agf h x (by omega))
 have C2 := Lh (fun W (h : NV W C m d b) => Agf h y (by omega))
 obtain ⟨P, hP⟩ : ∃ P, a * 2 ^ x = P := ⟨_, rfl⟩
 obtain ⟨Q, hQ⟩ : ∃ Q, b * 2 ^ y = Q := ⟨_, rfl⟩
 rw [hP] at C1 hm1 ⊢
 rw [hQ] at C2 hm2 h00 ⊢
 have C3 := Lh (fun W A1 n1 c1 A2 n2 c2 (h : NV W A1 n1 c1 P) (g : NV W A2 n2 c2 Q) => Ahz h g (by omega) (by omega) h00)
 have HA := Lh hA
 have HC := Lh hC
 have e0 : max t 0 = (x : Int) := by omega
 have e1 : max (-t) 0 = (y : Int) := by omega
 have e2 : IntKind.i64.wrap (-t) = -t := IntWalk.i64_in _ (by omega)
 clear hA hC ha hb h0 ht1 ht hp1 hp2 hm1 hm2 hx hy hP hQ
 go_enter Tryz.func188, Tryz.ntmps188
 go_wp2_with fail
 refine (C1.out _ HA.out).mono ?_
 rintro e w1 ⟨A1, n1, c1, rfl, g1, b1⟩
 have G1 := Lh g1
 have GC := Lh (HC.out.step b1)
 have B1 := Lh b1
 clear g1 b1
 go_wp2_with fail
 refine (C2.out _ GC.out).mono ?_
 rintro e w2 ⟨A2, n2, c2, rfl, g2, b2⟩
 have G2 := Lh g2
 have G1' := Lh (G1.out.step b2)
 have B2 := Lh (Aa B1.out b2)
 clear g2 b2
 go_wp2_with fail
 refine (C3.out _ _ _ _ _ _ _ G1'.out G2.out).mono ?_
 rintro e w3 ⟨A3, n3, c3, A4, n4, c4, rfl, g3, g4, b3⟩
 have G3 := Lh g3
 have B3 := Lh (Aa B2.out b3)
 have HZ := Lh (Aci g4.len)
 clear g3 g4 b3
 go_wp2
 go_ret2
 exact ⟨A3, n3, c3, by rw [← HZ.out]; rfl, G3.out, B3.out⟩
end
section
theorem O5 {w : World} {A : Option Addr} {n c m T B : Nat} {two ten t : Int} {Q : World → Ending → World → Prop} (hA : NV w A n c m)
  (C1 : Hid (∀ W, NV W A n c m → Cp 186 #[.slice A n c, .int .i64 ten] W (NRet T W)))
  (C3 : Hid (∀ W A1 n1 c1, NV W A1 n1 c1 1 → Cp 186 #[.slice A1 n1 c1, .int .i64 (-ten)] W (NRet B W)))
  (C6 : Hid (∀ W A1 n1 c1 A2 n2 c2, NV W A1 n1 c1 T → NV W A2 n2 c2 B → Cp 188 #[.slice A1 n1 c1, .slice A2 n2 c2, .int .i64 t] W fun e w' => ∃ v b, e = .returned (.tuple #[v, .bool b]) ∧ Q W e w'))
  (k1 : IntKind.i64.wrap (-ten) = -ten) (k2 : IntKind.i64.wrap (two + ten) = t) :
  Cp 200 #[.slice A n c, .int .i64 two, .int .i64 ten] w fun e w' => ∃ W, Q W e w' ∧ Below w.heap.size w W := by
 have C2 := Lh (fun W => nof 1 (by omega) W)
 have HA := Lh hA
 clear hA
 go_enter Tryz.func200, Tryz.ntmps200
 go_wp2_with fail
 refine (C1.out _ HA.out).mono ?_
 rintro e w1 ⟨A1, n1, c1, rfl, g1, b1⟩
 have G1 := Lh g1
 have B1 := Lh b1
 clear g1 b1
 go_wp2_with fail
 refine (C2.out _).mono ?_
 rintro e w2 ⟨A2, n2, c2, rfl, g2, b2⟩
 have G2 := Lh g2
 have G1' := Lh (G1.out.step b2)
 have B2 := Lh (Aa B1.out b2)
 clear g2 b2
 go_wp2_with fail
 refine (C3.out _ _ _ _ G2.out).mono ?_
 rintro e w3 ⟨A3, n3, c3, rfl, g3, b3⟩
 have G3 := Lh g3
 have G1'' := Lh (G1'.out.step b3)
 have B3 := Lh (Aa B2.out b3)
 clear g3 b3
 go_wp2_with fail
 refine (C6.out _ _ _ _ _ _ _ G1''.out G3.out).mono ?_
 rintro e w4 ⟨v, b, rfl, q4⟩
 have Q4 := Lh q4
 clear q4
 go_wp2
 go_ret2
 exact ⟨_, Q4.out, B3.out⟩
def scA (m : Nat) (two ten : Int) : Nat := m * 5 ^ ten.toNat * 2 ^ (two + ten).toNat
def scB (two ten : Int) : Nat := 5 ^ (-ten).toNat * 2 ^ (-(two + ten)).toNat
theorem Vn (two ten : Int) : 0 < scB two ten := Nat.mul_pos (Nat.pow_pos (by omega)) (As _)
theorem I0 {w : World} {A : Option Addr} {n c m : Nat} (two ten : Int) (hA : NV w A n c m) (hm : bln m ≤ 2000) (h1 : -1000 ≤ ten) (h2 : ten ≤ 1000) (h3 : -3000 ≤ two) (h4 : two ≤ 3000) :
  Cp 200 #[.slice A n c, .int .i64 two, .int .i64 ten] w (Afs (scA m two ten) (scB two ten) w) := by
 have f1 := Fv ten.toNat
 have f2 := Fv (-ten).toNat
 have g1 := Gj m (5 ^ ten.toNat)
 have p2 : 0 < 5 ^ (-ten).toNat := Nat.pow_pos (by omega)
 have C1 := Lh (fun W (h : NV W A n c m) => E3 ten h (by omega) (by omega) (by omega))
 have C3 : Hid (∀ W A1 n1 c1, NV W A1 n1 c1 1 → Cp 186 #[.slice A1 n1 c1, .int .i64 (-ten)] W (NRet (5 ^ (-ten).toNat) W)) := Lh (fun W A1 n1 c1 h => by
  have := E3 (-ten) h (by rw [show bln 1 = 1 by decide]; omega) (by omega) (by omega)
  rw [Nat.one_mul] at this
  exact this)
 have C6 : Hid (∀ W A1 n1 c1 A2 n2 c2, NV W A1 n1 c1 (m * 5 ^ ten.toNat) → NV W A2 n2 c2 (5 ^ (-ten).toNat) → Cp 188 #[.slice A1 n1 c1, .slice A2 n2 c2, .int .i64 (two + ten)] W fun e w' => ∃ v b, e = .returned (.tuple #[v, .bool b]) ∧ Afs (scA m two ten) (scB two ten) W e w') := Lh (fun W A1 n1 c1 A2 n2 c2 h g => (Km (two + ten) h g (by omega) (by omega) p2 (by omega) (by omega)).mono (by
  rintro e w' ⟨A3, n3, c3, rfl, hv, hb⟩
  exact ⟨_, _, rfl, A3, n3, c3, rfl, hv, hb⟩))
 refine (O5 hA C1 C3 C6 (IntWalk.i64_in _ (by omega)) (IntWalk.i64_in _ (by omega))).mono ?_
 rintro e w' ⟨W, ⟨A3, n3, c3, rfl, hv, hb⟩, hw⟩
 exact ⟨A3, n3, c3, rfl, hv, Aa hw hb⟩
end
section
theorem Ahc (m : Nat) (two n : Int) : scB two (-n) ≤ scA m two (-n) ↔ Ei n (m * 2 ^ two.toNat) (2 ^ (-two).toNat) := by
 unfold Ei scA scB
 obtain ⟨a, ha⟩ : ∃ a, two.toNat = a := ⟨_, rfl⟩
 obtain ⟨b, hb⟩ : ∃ b, (-two).toNat = b := ⟨_, rfl⟩
 obtain ⟨c, hc⟩ : ∃ c, n.toNat = c := ⟨_, rfl⟩
 obtain ⟨d, hd⟩ : ∃ d, (-n).toNat = d := ⟨_, rfl⟩
 obtain ⟨p, hp⟩ : ∃ p, (two + -n).toNat = p := ⟨_, rfl⟩
 obtain ⟨q, hq⟩ : ∃ q, (-(two + -n)).toNat = q := ⟨_, rfl⟩
 rw [ha, hb, hc, hd, hp, hq, show (- -n).toNat = c by omega]
 have e : 2 ^ q * (2 ^ a * 2 ^ d) = 2 ^ p * (2 ^ b * 2 ^ c) := by
  rw [← Nat.pow_add, ← Nat.pow_add, ← Nat.pow_add, ← Nat.pow_add]
  exact congrArg (fun k => 2 ^ k) (by omega)
 have t1 : (10 : Nat) ^ c = 5 ^ c * 2 ^ c := by rw [← Nat.mul_pow]
 have t2 : (10 : Nat) ^ d = 5 ^ d * 2 ^ d := by rw [← Nat.mul_pow]
 rw [t1, t2]
 have hq0 := As q
 have hbc : 0 < 2 ^ b * 2 ^ c := Nat.mul_pos (As b) (As c)
 generalize 2 ^ q = Q at *
 generalize 2 ^ a = A at *
 generalize 2 ^ d = D at *
 generalize 2 ^ p = P at *
 generalize 2 ^ b = B at *
 generalize 2 ^ c = C at *
 generalize 5 ^ c = F at *
 generalize 5 ^ d = G at *
 have r1 : B * (F * C) * Q = F * Q * (B * C) := by grind
 have r2 : m * A * (G * D) * Q = m * G * (Q * (A * D)) := by grind
 have r3 : m * G * P * (B * C) = m * G * (P * (B * C)) := by grind
 constructor
 ·intro h
  refine Nat.le_of_mul_le_mul_right ?_ hq0
  rw [r1, r2, e, ← r3]
  exact Nat.mul_le_mul_right _ h
 ·intro h
  refine Nat.le_of_mul_le_mul_right ?_ hbc
  have := Nat.mul_le_mul_right Q h
  rw [r1, r2, e, ← r3] at this
  exact this
theorem Rw {w : World} {A : Option Addr} {n c m bt V : Nat} {two x1 x2 x3 x4 x5 n1 : Int} (hA : NV w A n c m) (up : Bool)
  (C1 : Hid (∀ W, NV W A n c m → Cq 176 #[.slice A n c] (.int .i64 (bt : Nat)) W))
  (C2 : Hid (∀ W, NV W A n c m → Cp 200 #[.slice A n c, .int .i64 two, .int .i64 (-n1)] W fun e w' => ∃ A3 n3 c3 b, e = .returned (.tuple #[.slice A3 n3 c3, .bool b]) ∧ NV w' A3 n3 c3 V ∧ Below W.heap.size W w'))
  (k1 : wrap64 ((bt : Int) + two) = x1) (k2 : wrap64 (x1 - 1) = x2) (k3 : wrap64 (x2 * 78913) = x3) (k4 : x3 / 262144 = x4) (k5 : wrap64 (x4 + 1) = n1) (k6 : wrap64 (-n1) = -n1) (k7 : wrap64 (n1 + 1) = x5) (hup : up = decide (0 < V)) :
  Ct 146 #[.slice A n c, .int .i64 two] (.int .i64 (if up = true then x5 else n1)) w := by
 have HA := Lh hA
 have HU := Lh hup
 clear hA hup
 go_enter Tryz.func146, Tryz.ntmps146
 go_wp2_with fail
 refine Sm (C1.out _ HA.out) ?_
 go_wp2_with fail
 refine (C2.out _ HA.out).mono ?_
 rintro e w1 ⟨A3, n3, c3, b, rfl, g, b1⟩
 have B1 := Lh b1
 have hl := g.len
 clear b1
 have h0 := HU.out
 cases up
 ·have hV : V = 0 := by
   have := of_decide_eq_false h0.symm
   omega
  have t1 : ¬ (0 : Int) < (n3 : Int) := by
   rw [hV] at hl
   have : n3 = 0 := by rw [← hl]; rfl
   omega
  clear g hl h0 hV
  go_wp2
  go_ret
  exact ⟨rfl, B1.out⟩
 ·have hV : 0 < V := of_decide_eq_true h0.symm
  have t1 : (0 : Int) < (n3 : Int) := by
   have h2 : (wds V) ≠ [] := fun e => by
    have h3 := Ao V
    rw [e] at h3
    have : val [] = 0 := rfl
    omega
   have := List.length_pos_iff.2 h2
   omega
  clear g hl h0 hV
  go_wp2
  go_ret
  exact ⟨rfl, B1.out⟩
end
section
theorem Vt {m k : Nat} {two e : Int} (h1 : 2 ^ k ≤ m) (h2 : m < 2 ^ (k + 1)) (he : (k : Int) + two = e) :
  2 ^ e.toNat * 2 ^ (-two).toNat ≤ m * 2 ^ two.toNat * 2 ^ (-e).toNat ∧ m * 2 ^ two.toNat * 2 ^ (-e).toNat < 2 * 2 ^ e.toNat * 2 ^ (-two).toNat := by
 have key : 2 ^ k * 2 ^ two.toNat * 2 ^ (-e).toNat = 2 ^ e.toNat * 2 ^ (-two).toNat := by
  rw [← Nat.pow_add, ← Nat.pow_add, ← Nat.pow_add]
  exact congrArg (fun k => 2 ^ k) (by omega)
 have hp := As two.toNat
 have hq := As (-e).toNat
 constructor
 ·rw [← key]
  exact Nat.mul_le_mul_right _ (Nat.mul_le_mul_right _ h1)
 ·rw [Nat.mul_assoc, Nat.mul_assoc 2, ← key, ← Nat.mul_assoc m, ← Nat.mul_assoc 2, ← Nat.mul_assoc 2, show 2 * 2 ^ k = 2 ^ (k + 1) by rw [Nat.pow_succ, Nat.mul_comm]]
  exact Nat.mul_lt_mul_of_pos_right (Nat.mul_lt_mul_of_pos_right h2 hp) hq
theorem Sn {w : World} {A : Option Addr} {n c m : Nat} (two : Int) (hA : NV w A n c m) (h0 : 0 < m) (hm : bln m ≤ 100) (h1 : -1140 < (bln m : Int) + two - 1) (h2 : (bln m : Int) + two - 1 < 1100) :
  ∃ p : Int, Bo (m * 2 ^ two.toNat) (2 ^ (-two).toNat) p ∧ -345 ≤ p ∧ p ≤ 335 ∧ Ct 146 #[.slice A n c, .int .i64 two] (.int .i64 p) w := by
 obtain ⟨u1, u2, u3⟩ := A9 h0
 obtain ⟨k, hk⟩ : ∃ k, bln m = k + 1 := ⟨bln m - 1, by omega⟩
 have C1 := Lh (fun W (h : NV W A n c m) => Ve h (by omega))
 rw [hk] at u1 u2 hm h1 h2 C1
 rw [Nat.add_sub_cancel] at u1
 obtain ⟨e, he⟩ : ∃ e, (k : Int) + two = e := ⟨_, rfl⟩
 obtain ⟨l1, l2⟩ := Vt u1 u2 he
 obtain ⟨p1, p2⟩ := Ps (u := m * 2 ^ two.toNat) (v := 2 ^ (-two).toNat) (e := e) (As _) (by omega) (by omega) l1 l2
 obtain ⟨n1, hn1⟩ : ∃ n1, lg2 e + 1 = n1 := ⟨_, rfl⟩
 have hlg : e * 78913 / 262144 = n1 - 1 := by unfold lg2 at hn1; omega
 have b1 : -345 ≤ n1 ∧ n1 ≤ 333 := by omega
 rw [hn1] at p1 p2
 rw [show lg2 e + 2 = n1 + 1 by omega] at p2
 have hs := Ahc m two n1
 have hq : (0 < scA m two (-n1) / scB two (-n1)) ↔ Ei n1 (m * 2 ^ two.toNat) (2 ^ (-two).toNat) := by
  rw [Nat.div_pos_iff, ← hs]
  exact ⟨fun h => h.2, fun h => ⟨Vn _ _, h⟩⟩
 have C2 : Hid (∀ W, NV W A n c m → Cp 200 #[.slice A n c, .int .i64 two, .int .i64 (-n1)] W fun e w' => ∃ A3 n3 c3 b, e = .returned (.tuple #[.slice A3 n3 c3, .bool b]) ∧ NV w' A3 n3 c3 (scA m two (-n1) / scB two (-n1)) ∧ Below W.heap.size W w') := Lh (fun W h => (I0 two (-n1) h (by omega) (by omega) (by omega) (by omega) (by omega)).mono (by
  rintro e w' ⟨A3, n3, c3, rfl, hv, hb⟩
  exact ⟨A3, n3, c3, _, rfl, hv, hb⟩))
 have W := fun up h => Rw (two := two) (x1 := ((k + 1 : Nat) : Int) + two) (x2 := e) (x3 := e * 78913) (x4 := n1 - 1) (x5 := n1 + 1) (n1 := n1) hA up C1 C2 (by unfold wrap64; omega) (by unfold wrap64; omega) (by unfold wrap64; omega) hlg (by unfold wrap64; omega) (by unfold wrap64; omega) (by unfold wrap64; omega) h
 by_cases h : 0 < scA m two (-n1) / scB two (-n1)
 ·exact ⟨n1 + 1, p2 (hq.1 h), by omega, by omega, W true (decide_eq_true h).symm⟩
 ·exact ⟨n1, p1 (fun hh => h (hq.2 hh)), by omega, by omega, W false (decide_eq_false h).symm⟩
end
section
theorem Ab0 {N S P Q x y : Nat} (h : N * 2 ^ x = S * 2 ^ y) (e : P + y = x + Q) : N * 2 ^ P = S * 2 ^ Q := by
 refine Nat.eq_of_mul_eq_mul_right (As y) ?_
 rw [Nat.mul_assoc, ← Nat.pow_add, e, Nat.pow_add, ← Nat.mul_assoc, h, Nat.mul_assoc, Nat.mul_assoc, Nat.mul_comm (2 ^ y)]
theorem Py {N S M x y : Nat} {two ten : Int} (hxy : (x : Int) - y = two + M) (h : N * 2 ^ x = S * 2 ^ y) :
  scA N two ten * (2 ^ M * 10 ^ (-ten).toNat) = S * 10 ^ ten.toNat * scB two ten := by
 unfold scA scB
 obtain ⟨a, ha⟩ : ∃ a, ten.toNat = a := ⟨_, rfl⟩
 obtain ⟨b, hb⟩ : ∃ b, (-ten).toNat = b := ⟨_, rfl⟩
 obtain ⟨p, hp⟩ : ∃ p, (two + ten).toNat = p := ⟨_, rfl⟩
 obtain ⟨q, hq⟩ : ∃ q, (-(two + ten)).toNat = q := ⟨_, rfl⟩
 rw [ha, hb, hp, hq]
 have key := Ab0 (P := p + (M + b)) (Q := a + q) h (by omega)
 rw [Nat.pow_add, Nat.pow_add, Nat.pow_add] at key
 have t1 : (10 : Nat) ^ a = 5 ^ a * 2 ^ a := by rw [← Nat.mul_pow]
 have t2 : (10 : Nat) ^ b = 5 ^ b * 2 ^ b := by rw [← Nat.mul_pow]
 rw [t1, t2]
 generalize 2 ^ p = P' at *
 generalize 2 ^ M = M' at *
 generalize 2 ^ b = B' at *
 generalize 2 ^ a = A' at *
 generalize 2 ^ q = Q' at *
 generalize 5 ^ a = F
 generalize 5 ^ b = G
 have r1 : N * F * P' * (M' * (G * B')) = F * G * (N * (P' * (M' * B'))) := by grind
 have r2 : S * (F * A') * (G * Q') = F * G * (S * (A' * Q')) := by grind
 rw [r1, r2, key]
theorem Ha {a b c d : Nat} (hb : 0 < b) (hd : 0 < d) (h : a * d = c * b) : a % b = 0 ↔ c % d = 0 := by
 have e := (Ds hb hd h).1
 have h1 := Nat.div_add_mod a b
 have h2 := Nat.div_add_mod c d
 generalize a % b = s at *
 generalize c % d = t at *
 rw [← e] at h2
 generalize a / b = q at *
 have k1 : a * d = b * q * d + s * d := by rw [← h1]; grind
 have k2 : c * b = b * q * d + t * b := by rw [← h2]; grind
 have k3 : s * d = t * b := by omega
 constructor
 ·intro h0
  rw [h0, Nat.zero_mul] at k3
  rcases Nat.mul_eq_zero.1 k3.symm with h | h
  ·exact h
  ·omega
 ·intro h0
  rw [h0, Nat.zero_mul] at k3
  rcases Nat.mul_eq_zero.1 k3 with h | h
  ·exact h
  ·omega
theorem Sj {r c D : Nat} (h1 : r = D * 4503599627370496 + c) (h2 : c < 9007199254740992) (h3 : D = 0 ∨ 4503599627370496 ≤ c) (h0 : 0 < r) :
  2 * (Ac r + Ac (r + 1)) = (4 * c + 2) * 2 ^ D ∧ 2 * (Ac (r - 1) + Ac r) = (4 * c - (if c = 4503599627370496 ∧ 0 < D then 1 else 2)) * 2 ^ D := by
 obtain ⟨D', c', e1, e2, e3, e4, e5⟩ := Cs r
 have hD : D' = D ∧ c' = c := by
  rcases h3 with h3 | h3 <;> rcases e3 with e3 | e3 <;> omega
 obtain ⟨rfl, rfl⟩ := hD
 have hc0 : 0 < c' := by
  rcases h3 with h3 | h3
  ·subst h3; omega
  ·omega
 refine ⟨by rw [e4, e5, ← Nat.add_mul]; grind, ?_⟩
 by_cases hp : c' = 4503599627370496 ∧ 0 < D'
 ·obtain ⟨p1, p2⟩ := hp
  rw [if_pos ⟨p1, p2⟩]
  obtain ⟨d, rfl⟩ : ∃ d, D' = d + 1 := ⟨D' - 1, by omega⟩
  have hr : r - 1 = d * 4503599627370496 + 9007199254740991 := by omega
  have hm := Ap 9007199254740991 d (by omega) (by omega)
  rw [← hr] at hm
  rw [hm, e4, p1, Nat.pow_succ]
  generalize 2 ^ d = X
  omega
 ·rw [if_neg hp]
  have hm : Ac (r - 1) = (c' - 1) * 2 ^ D' := by
   rcases Nat.eq_zero_or_pos D' with hD | hD
   ·subst hD
    rw [show r - 1 = c' - 1 by omega, Dl (by omega)]
    simp
   ·have : 4503599627370496 < c' := by
     rcases e3 with e3 | e3
     ·omega
     ·have : c' ≠ 4503599627370496 := fun h => hp ⟨h, hD⟩
      omega
    have hm := Ap (c' - 1) D' (by omega) (by omega)
    rw [← hm]
    exact congrArg Ac (by omega)
  rw [hm, e4]
  obtain ⟨x, rfl⟩ : ∃ x, c' = x + 1 := ⟨c' - 1, by omega⟩
  generalize 2 ^ D' = X
  rw [show 4 * (x + 1) - 2 = 4 * x + 2 by omega, show x + 1 - 1 = x by omega]
  grind
end
section
def PartIs (r m : Nat) (two : Int) : Prop := ∃ c D k : Nat, r = D * 4503599627370496 + c ∧ c < 9007199254740992 ∧ (D = 0 ∨ 4503599627370496 ≤ c) ∧ c = m * 2 ^ k ∧ two = (D : Int) - 1074 + k ∧ m % 2 = 1 ∧ D ≤ 2045 ∧ k ≤ 52
theorem Te {m L : Nat} (h1 : 2 ^ L ≤ m) (h2 : m < 2 ^ (L + 1)) : bln m = L + 1 := by
 have h0 : 0 < m := Nat.lt_of_lt_of_le (As L) h1
 obtain ⟨b1, b2, b3⟩ := A9 h0
 have c1 : L < bln m := (Nat.pow_lt_pow_iff_right (by omega)).1 (Nat.lt_of_le_of_lt h1 b2)
 have c2 : bln m - 1 < L + 1 := (Nat.pow_lt_pow_iff_right (a := 2) (by omega)).1 (Nat.lt_of_le_of_lt b1 h2)
 omega
theorem Mq {m k : Nat} (h0 : 0 < m) : bln (m * 2 ^ k) = bln m + k := by
 obtain ⟨b1, b2, b3⟩ := A9 h0
 obtain ⟨L, hL⟩ : ∃ L, bln m = L + 1 := ⟨bln m - 1, by omega⟩
 rw [hL] at b1 b2
 rw [hL, Te (L := L + k)]
 ·omega
 ·rw [Nat.pow_add]
  exact Nat.mul_le_mul_right _ b1
 ·rw [show L + k + 1 = L + 1 + k by omega, Nat.pow_add]
  exact Nat.mul_lt_mul_of_pos_right b2 (As k)
theorem PartIs.mag {r m : Nat} {two : Int} (h : PartIs r m two) {K : Nat} (hK : K = 1074) : ∃ t : Nat, (t : Int) = two + K ∧ Ac r = m * 2 ^ t := by
 obtain ⟨c, D, k, h1, h2, h3, h4, h5, h6, _, _⟩ := h
 obtain ⟨D', c', e1, e2, e3, e4, e5⟩ := Cs r
 have hD : D' = D ∧ c' = c := by
  rcases h3 with h3 | h3 <;> rcases e3 with e3 | e3 <;> omega
 obtain ⟨rfl, rfl⟩ := hD
 refine ⟨k + D', by omega, ?_⟩
 rw [e4, h4, Nat.mul_assoc, ← Nat.pow_add]
theorem PartIs.pos {r m : Nat} {two : Int} (h : PartIs r m two) : 0 < m ∧ bln m ≤ 53 ∧ -1074 < (bln m : Int) + two ∧ (bln m : Int) + two ≤ 1024 ∧ -1074 ≤ two ∧ two ≤ 1023 := by
 obtain ⟨c, D, k, h1, h2, h3, h4, h5, h6, h7, h8⟩ := h
 have h0 : 0 < m := by omega
 have hb := Mq (k := k) h0
 rw [← h4] at hb
 have hc : 0 < c := by rw [h4]; exact Nat.mul_pos h0 (As k)
 obtain ⟨b1, b2, b3⟩ := A9 hc
 obtain ⟨_, _, b6⟩ := A9 h0
 have : bln c ≤ 53 := E7 (by omega)
 omega
theorem Acj {r m : Nat} {two : Int} (h : PartIs r m two) : m * 2 ^ two.toNat * big = Ac r * 2 ^ (-two).toNat := by
 obtain ⟨K, hK, hb⟩ := I8
 obtain ⟨t, ht, hm⟩ := h.mag hK
 rw [hm, hb, Nat.mul_assoc, Nat.mul_assoc, ← Nat.pow_add, ← Nat.pow_add]
 exact congrArg (fun k => m * 2 ^ k) (by omega)
theorem F5 {u v u' v' : Nat} {n : Int} (hv : 0 < v) (hv' : 0 < v') (h : u * v' = u' * v) (hp : Bo u v n) : Bo u' v' n :=
 ⟨H7 hv (Nat.le_of_eq h) hp.1, fun g => hp.2 (H7 hv' (Nat.le_of_eq h.symm) g)⟩
theorem Ss {r m c D k : Nat} {s : Int} {K : Nat} (hK : K = 1074) (h1 : r = D * 4503599627370496 + c) (h2 : c < 9007199254740992) (h3 : D = 0 ∨ 4503599627370496 ≤ c) (h4 : c = m * 2 ^ k) :
  scA (m * 2 ^ (k + 2)) ((D : Int) - 1076) s * vV s = vU r s * scB ((D : Int) - 1076) s := by
 obtain ⟨K', hK', hb⟩ := I8
 have : K' = K := by omega
 subst this
 obtain ⟨D', c', e1, e2, e3, e4, e5⟩ := Cs r
 have hD : D' = D ∧ c' = c := by
  rcases h3 with h3 | h3 <;> rcases e3 with e3 | e3 <;> omega
 obtain ⟨rfl, rfl⟩ := hD
 unfold vV vU
 rw [hb]
 refine Py (x := D') (y := 2) (by omega) ?_
 rw [e4, h4, Nat.pow_add]
 generalize 2 ^ D' = X
 generalize 2 ^ k = Y
 grind
theorem Nb {N S D : Nat} {s : Int} {K : Nat} (hK : K = 1074) (h : 2 * S = N * 2 ^ D) : scA N ((D : Int) - 1076) s * (2 * vV s) = S * 10 ^ s.toNat * scB ((D : Int) - 1076) s := by
 obtain ⟨K', hK', hb⟩ := I8
 have : K' = K := by omega
 subst this
 unfold vV
 rw [hb, show 2 * (2 ^ K' * 10 ^ (-s).toNat) = 2 ^ (K' + 1) * 10 ^ (-s).toNat from by rw [Nat.pow_succ]; grind]
 exact Py (x := D) (y := 1) (by omega) (by rw [Nat.pow_one]; omega)
theorem Jr {r : Nat} {n : Int} (hp : Bo (Ac r) big n) : vU r (18 - n) / vV (18 - n) < 1000000000000000000 ∧ 100000000000000000 ≤ vU r (18 - n) / vV (18 - n) := by
 have h := Afz (k := 18) hp
 have g := Af0 (k := 18) hp (by omega)
 exact ⟨h, g⟩
theorem Ad1 {r : Nat} (h0 : 0 < r) : Ac (r + 1) ≤ 2 * Ac r := by
 obtain ⟨D, c, e1, e2, e3, e4, e5⟩ := Cs r
 have hc : 1 ≤ c := by
  rcases e3 with e3 | e3
  ·subst e3; omega
  ·omega
 rw [e4, e5, ← Nat.mul_assoc]
 exact Nat.mul_le_mul_right _ (by omega)
theorem Aeh {r : Nat} {n : Int} (h0 : 0 < r) (hp : Bo (Ac r) big n) : (Ac r + Ac (r + 1)) * 10 ^ ((18 : Int) - n).toNat / (2 * vV (18 - n)) < 2000000000000000000 ∧ 0 < (Ac r + Ac (r + 1)) * 10 ^ ((18 : Int) - n).toNat / (2 * vV (18 - n)) := by
 obtain ⟨h1, h2⟩ := Jr hp
 have hv := Cw (18 - n)
 rw [Nat.div_lt_iff_lt_mul hv] at h1
 rw [Nat.le_div_iff_mul_le hv] at h2
 have h3 := Ad1 h0
 unfold vU at h1 h2
 have hup : Ac r < Ac (r + 1) := Bf (by omega)
 generalize 10 ^ ((18 : Int) - n).toNat = B at *
 generalize vV (18 - n) = V at *
 generalize Ac r = f at *
 generalize Ac (r + 1) = g at *
 have h4 : g * B ≤ 2 * (f * B) := by rw [← Nat.mul_assoc]; exact Nat.mul_le_mul_right _ h3
 have h5 : f * B ≤ g * B := Nat.mul_le_mul_right _ (by omega)
 constructor
 ·rw [Nat.div_lt_iff_lt_mul (by omega), Nat.add_mul]
  omega
 ·rw [Nat.div_pos_iff, Nat.add_mul]
  omega
theorem Adb {r : Nat} {n : Int} (h0 : 0 < r) (hp : Bo (Ac r) big n) : (Ac (r - 1) + Ac r) * 10 ^ ((18 : Int) - n).toNat / (2 * vV (18 - n)) < 1000000000000000000 := by
 obtain ⟨h1, h2⟩ := Jr hp
 have hv := Cw (18 - n)
 rw [Nat.div_lt_iff_lt_mul hv] at h1
 unfold vU at h1
 have hup : Ac (r - 1) < Ac r := Bf (by omega)
 generalize 10 ^ ((18 : Int) - n).toNat = B at *
 generalize vV (18 - n) = V at *
 generalize Ac r = f at *
 generalize Ac (r - 1) = g at *
 have h5 : g * B ≤ f * B := Nat.mul_le_mul_right _ (by omega)
 rw [Nat.div_lt_iff_lt_mul (by omega), Nat.add_mul]
 omega
end
section
theorem Ch {w : World} {A : Option Addr} {n c v : Nat} (hA : NV w A n c v) (hv : v < 18446744073709551616) :
  Cq 189 #[.slice A n c] (.int .u64 v) w := by
 have hn : n ≤ 2 := by
  rw [← hA.len]
  exact Cf (by rw [show (4294967296 : Nat) ^ 2 = 18446744073709551616 from by decide]; exact hv)
 have hL := hA.len
 have hws := Ey v
 by_cases hn0 : n = 0
 ·subst hn0
  have hv0 : v = 0 := by
   have h1 := Ao v
   rw [List.eq_nil_of_length_eq_zero hL] at h1
   exact h1.symm
  subst hv0
  clear hL hws hv hA hn
  go_enter Tryz.func189, Tryz.ntmps189
  go_wp2
  go_loopw [3, 8] (fun a i wr => a = .int .u64 0 ∧ i = .int .i64 0 ∧ w = wr) (fun _ _ _ => 0)
  case atStart => exact ⟨rfl, rfl, rfl⟩
  case round =>
   obtain ⟨rfl, rfl, rfl⟩ := hrel
   go_wp2
   go_ret
   exact ⟨rfl, rfl⟩
 ·obtain ⟨b, off, rfl, _, hc⟩ := hA.row.2 (by omega)
  obtain ⟨x, hx⟩ : ∃ x, (wds v).getD 0 0 = x := ⟨_, rfl⟩
  obtain ⟨y, hy⟩ : ∃ y, (wds v).getD 1 0 = y := ⟨_, rfl⟩
  have hxl : x < 4294967296 := by rw [← hx]; exact hws.getD 0
  have hyl : y < 4294967296 := by rw [← hy]; exact hws.getD 1
  have hV1 : n = 1 → v = x := by
   intro h1
   have h2 := Ao v
   rw [← Be (k := 1) (by omega), At, hx] at h2
   simp [val] at h2
   exact h2.symm
  have hV2 : n = 2 → v = x + 4294967296 * y := by
   intro h1
   have h2 := Ao v
   rw [← Be (k := 2) (by omega), At, At, hx, hy] at h2
   simp [val] at h2
   exact h2.symm
  have c0 : w.cell? ⟨b, off, none⟩ = some (.int .u32 (x : Int)) := by
   rw [← hx]
   exact hc 0 _ (Ba (by omega))
  have hx0 : bits BinOp.or IntKind.u64 0 (x : Int) = (x : Int) := by
   have := E9 0 x (by omega) (by omega)
   rw [Nat.zero_or] at this
   exact this
  have k1 : IntKind.u64.wrap (x : Int) = (x : Int) := IntWalk.u64_in _ (by omega)
  rcases (show n = 1 ∨ n = 2 by omega) with rfl | rfl
  ·have hv1 := hV1 rfl
   subst hv1
   clear hV1 hV2 hx hy hyl hws hL hA hn hn0 hc
   go_enter Tryz.func189, Tryz.ntmps189
   go_wp2
   go_loopw [3, 8] (fun a i wr => ((a = .int .u64 0 ∧ i = .int .i64 0) ∨ (a = .int .u64 (v : Int) ∧ i = .int .i64 1)) ∧ w = wr) (fun _ i _ => 1 - (intOf i).toNat)
   case atStart => exact ⟨Or.inl ⟨rfl, rfl⟩, rfl⟩
   case round =>
    obtain ⟨⟨rfl, rfl⟩ | ⟨rfl, rfl⟩, rfl⟩ := hrel
    ·go_wp2
     exact ⟨⟨Or.inr ⟨rfl, rfl⟩, trivial⟩, by simp [intOf]⟩
    ·go_wp2
     go_ret
     exact ⟨rfl, rfl⟩
  ·have hv2 := hV2 rfl
   have c1 : w.cell? ⟨b, off + 1, none⟩ = some (.int .u32 (y : Int)) := by
    rw [← hy]
    exact hc 1 _ (Ba (by omega))
   have k2 : IntKind.u64.wrap (y : Int) = (y : Int) := IntWalk.u64_in _ (by omega)
   have k3 : IntKind.u64.wrap ((y : Int) * 4294967296) = (y : Int) * 4294967296 := IntWalk.u64_in _ (by omega)
   have hy0 : bits BinOp.or IntKind.u64 (x : Int) ((y : Int) * 4294967296) = (v : Int) := by
    have h1 := E9 x (y * 4294967296) (by omega) (by omega)
    have h2 : ((y * 4294967296 : Nat) : Int) = (y : Int) * 4294967296 := by omega
    rw [h2] at h1
    rw [h1, Nat.or_comm, Qh y x hxl, hv2, Nat.mul_comm y, Nat.add_comm]
   clear hV1 hV2 hx hy hws hL hA hn hn0 hc hv2 hxl hyl hv
   go_enter Tryz.func189, Tryz.ntmps189
   go_wp2
   go_loopw [3, 8] (fun a i wr => ((a = .int .u64 0 ∧ i = .int .i64 0) ∨ (a = .int .u64 (x : Int) ∧ i = .int .i64 1) ∨ (a = .int .u64 (v : Int) ∧ i = .int .i64 2)) ∧ w = wr) (fun _ i _ => 2 - (intOf i).toNat)
   case atStart => exact ⟨Or.inl ⟨rfl, rfl⟩, rfl⟩
   case round =>
    obtain ⟨⟨rfl, rfl⟩ | ⟨rfl, rfl⟩ | ⟨rfl, rfl⟩, rfl⟩ := hrel
    ·go_wp2
     exact ⟨⟨Or.inr (Or.inl ⟨rfl, rfl⟩), trivial⟩, by simp [intOf]⟩
    ·go_wp2
     exact ⟨⟨Or.inr (Or.inr ⟨rfl, rfl⟩), trivial⟩, by simp [intOf]⟩
    ·go_wp2
     go_ret
     exact ⟨rfl, rfl⟩
end
section
theorem Dr {fn : Func} {p : Tmp} {ty : TypeId} (h : fn.results = #[.cell p ty]) (tmps : Array Value) (P : Program) (w : World) (a : Addr) (v : Value) (ha : tmps.getD p undef = .pointer (some a)) (hl : (loadVar ty a).run P w = .ok v w) : (results fn tmps).run P w = .ok v w := by
 simp only [results, h]
 simp [-Array.getD_eq_getD_getElem?, ha, asAddr, hl]
def Rv (w : World) (g : Nat) (a : Array Value) : Prop := w.heap[g]? = some (.cells a 139 (0, 0))
def zq : Array Value := #[.int .u64 0, .bool false, .int .u64 0, .int .u64 0]
theorem Xb {w : World} {A : Option Addr} {n c m bt bw q H L M : Nat} {two ten x1 x2 last x3 x4 x5 bI : Int} {hE lE mE ev : Bool} (hA : NV w A n c m)
    (C1 : Hid (∀ W, NV W A n c m → Cq 176 #[.slice A n c] (.int .i64 (bt : Nat)) W))
    (C2 : Hid (∀ W, NV W A n c m → Cp 201 #[.slice A n c, .int .i64 x4] W (NOk q W)))
    (C3 : Hid (∀ W, Cp 187 #[.int .u64 bI] W (NRet bw W)))
    (C4 : Hid (∀ W A1 n1 c1 A2 n2 c2, NV W A1 n1 c1 q → NV W A2 n2 c2 bw → Cp 202 #[.slice A1 n1 c1, .slice A2 n2 c2] W (NOk (q - bw) W)))
    (C5 : Hid (∀ W, Cp 187 #[.int .u64 2] W (NRet 2 W)))
    (C6 : Hid (∀ W A1 n1 c1 A2 n2 c2, NV W A1 n1 c1 q → NV W A2 n2 c2 2 → Cp 203 #[.slice A1 n1 c1, .slice A2 n2 c2] W (NOk (q + 2) W)))
    (S1 : Hid (∀ W A1 n1 c1, NV W A1 n1 c1 q → Cp 200 #[.slice A1 n1 c1, .int .i64 x5, .int .i64 ten] W fun e w' => ∃ A3 n3 c3, e = .returned (.tuple #[.slice A3 n3 c3, .bool hE]) ∧ NV w' A3 n3 c3 H ∧ Below W.heap.size W w'))
    (S2 : Hid (∀ W A1 n1 c1, NV W A1 n1 c1 (q - bw) → Cp 200 #[.slice A1 n1 c1, .int .i64 x5, .int .i64 ten] W fun e w' => ∃ A3 n3 c3, e = .returned (.tuple #[.slice A3 n3 c3, .bool lE]) ∧ NV w' A3 n3 c3 L ∧ Below W.heap.size W w'))
    (S3 : Hid (∀ W A1 n1 c1, NV W A1 n1 c1 (q + 2) → Cp 200 #[.slice A1 n1 c1, .int .i64 x5, .int .i64 ten] W fun e w' => ∃ A3 n3 c3, e = .returned (.tuple #[.slice A3 n3 c3, .bool mE]) ∧ NV w' A3 n3 c3 M ∧ Below W.heap.size W w'))
    (hH : H < 18446744073709551616) (hL : L < 9223372036854775808) (hM : M < 9223372036854775808) (hM0 : 0 < M)
    (k1 : wrap64 ((bt : Int) + two) = x1) (k2 : wrap64 (x1 - 53) = x2) (hmax : max x2 (-1074) = last) (k3 : wrap64 (two - last) = x3) (k4 : wrap64 (x3 + 2) = x4) (k5 : wrap64 (last - 2) = x5)
    (hb : bt = 1 ∧ -1074 < last ∧ bI = 1) (hev : decide (last < two) = ev) :
    Ct 147 #[.slice A n c, .int .i64 two, .int .i64 ten] (.agg #[.int .u64 (H : Nat), .bool hE, .int .u64 ((if lE = true ∧ ev = true then L else L + 1 : Nat) : Nat), .int .u64 ((if mE = true ∧ ev = false then M - 1 else M : Nat) : Nat)]) w := by
  have W1 := Lh (fun W A1 n1 c1 (h : NV W A1 n1 c1 H) => Ch h hH)
  have W2 := Lh (fun W A1 n1 c1 (h : NV W A1 n1 c1 L) => Ch h (by omega))
  have W3 := Lh (fun W A1 n1 c1 (h : NV W A1 n1 c1 M) => Ch h (by omega))
  have HA := Lh hA
  have HEV := Lh hev
  have l1 : (L : Int) < 9223372036854775808 := by omega
  have l2 : (M : Int) < 9223372036854775808 := by omega
  have l3 : (0 : Int) < (M : Int) := by omega
  clear hA hH hL hM hM0 hev
  obtain ⟨hbt, hl, rfl⟩ := hb
  all_goals
    first | have tb : ((bt : Int) == 1) = false := by rw [beq_eq_false_iff_ne]; omega
          | have tb : ((bt : Int) == 1) = true := by rw [beq_iff_eq]; omega
    clear hbt
    have HA := Lh (HA.out.step (show Below w.heap.size w (w.alloc (.cells zq 139)) from (Below.refl _ _).alloc (Nat.le_refl _) _))
    have B0 := Lh (show Below w.heap.size w (w.alloc (.cells zq 139)) from (Below.refl _ _).alloc (Nat.le_refl _) _)
    have R0 := Lh (show Rv (w.alloc (.cells zq 139)) w.heap.size zq from heap_alloc_last w _)
    have S0 := Lh (show w.heap.size < (w.alloc (.cells zq 139)).heap.size from by simp)
    unfold zq at HA B0 R0 S0
    go_enter Tryz.func147, Tryz.ntmps147
    go_wp2_with fail
    generalize w.alloc (.cells #[.int .u64 0, .bool false, .int .u64 0, .int .u64 0] 139) = w0 at *
    refine Sm (C1.out _ HA.out) ?_
    go_wp2_with fail
    refine (C2.out _ HA.out).mono ?_
    rintro e w1 ⟨A1, n1, c1, rfl, g1, b1⟩
    have G1 := Lh g1
    have G0 := Lh (HA.out.step b1)
    have B1 := Lh (b1)
    clear g1 b1 hmax k1 k2 k3 k4
    go_wp2_with fail
    refine Sm (C1.out _ G0.out) ?_
    go_wp2_with fail
    refine (C3.out _).mono ?_
    rintro e w2 ⟨A2, n2, c2, rfl, g2, b2⟩
    have G2 := Lh g2
    have G1 := Lh (G1.out.step b2)
    have B2 := Lh (Aa B1.out b2)
    clear g2 b2
    go_wp2_with fail
    refine (C4.out _ _ _ _ _ _ _ G1.out G2.out).mono ?_
    rintro e w3 ⟨A3, n3, c3, rfl, g3, b3⟩
    have G3 := Lh g3
    have G1 := Lh (G1.out.step b3)
    have B3 := Lh (Aa B2.out b3)
    clear g3 b3
    go_wp2_with fail
    refine (C5.out _).mono ?_
    rintro e w4 ⟨A4, n4, c4, rfl, g4, b4⟩
    have G4 := Lh g4
    have G1 := Lh (G1.out.step b4)
    have G3 := Lh (G3.out.step b4)
    have B4 := Lh (Aa B3.out b4)
    clear g4 b4
    go_wp2_with fail
    refine (C6.out _ _ _ _ _ _ _ G1.out G4.out).mono ?_
    rintro e w5 ⟨A5, n5, c5, rfl, g5, b5⟩
    have G5 := Lh g5
    have G1 := Lh (G1.out.step b5)
    have G3 := Lh (G3.out.step b5)
    have B5 := Lh (Aa B4.out b5)
    clear g5 b5
    go_wp2_with fail
    refine (S1.out _ _ _ _ G1.out).mono ?_
    rintro e w6 ⟨A6, n6, c6, rfl, g6, b6⟩
    have G6 := Lh g6
    have G5 := Lh (G5.out.step b6)
    have G3 := Lh (G3.out.step b6)
    have B6 := Lh (Aa B5.out b6)
    clear g6 b6
    go_wp2_with fail
    refine (S2.out _ _ _ _ G3.out).mono ?_
    rintro e w7 ⟨A7, n7, c7, rfl, g7, b7⟩
    have G7 := Lh g7
    have G5 := Lh (G5.out.step b7)
    have G6 := Lh (G6.out.step b7)
    have B7 := Lh (Aa B6.out b7)
    clear g7 b7
    go_wp2_with fail
    refine (S3.out _ _ _ _ G5.out).mono ?_
    rintro e w8 ⟨A8, n8, c8, rfl, g8, b8⟩
    have G8 := Lh g8
    have G7 := Lh (G7.out.step b8)
    have G6 := Lh (G6.out.step b8)
    have B8 := Lh (Aa B7.out b8)
    clear g8 b8 C1 C2 C3 C4 C5 C6 S1 S2 S3
    go_wp2_with fail
    refine Sm (W1.out _ _ _ _ G6.out) ?_
    go_wp2_with fail
    refine Sm (W2.out _ _ _ _ G7.out) ?_
    go_wp2_with fail
    refine Sm (W3.out _ _ _ _ G8.out) ?_
    have HG := Lh (fun c' => show (w8.alloc (.cells c' 139)).heap[w.heap.size]? = some (.cells #[.int .u64 0, .bool false, .int .u64 0, .int .u64 0] 139 (0, 0)) from by
      have hlt : w.heap.size < w8.heap.size := Nat.lt_of_lt_of_le S0.out B8.out.size
      have b1 : Below w8.heap.size w8 (w8.alloc (.cells c' 139)) := (Below.refl _ _).alloc (Nat.le_refl _) _
      exact (b1.block _ hlt).trans ((B8.out.block _ S0.out).trans R0.out))
    have HB := Lh (fun c' => show Below w.heap.size w (w8.alloc (.cells c' 139)) from by
      have b2 := Aa B0.out B8.out
      exact b2.alloc b2.size _)
    have he := HEV.out
    have hL1 : IntKind.u64.wrap ((L : Int) + 1) = ((L + 1 : Nat) : Int) := by rw [IntKind.wrap_u64]; omega
    have hM1 : IntKind.u64.wrap ((M : Int) - 1) = ((M - 1 : Nat) : Int) := by rw [IntKind.wrap_u64]; omega
    clear W1 W2 W3 G6 G7 G8 k5 HA HEV
    first | clear hl | skip
    clear tb l1 l2 l3 B0 B1 B2 B3 B4 B5 B6 B7 B8 S0 R0 G1 G5 G3 G0
    cases ev <;> cases lE <;> cases mE
    all_goals
      go_wp2_with (first | (refine wpList_store_row rfl 139 _ _ rfl w.heap.size _ rfl rfl 139 #[.int .u64 0, .bool false, .int .u64 0, .int .u64 0] (HG.out _) (by first | kernel_rfl | rfl) rfl (by first | kernel_rfl | rfl) ?_))
    all_goals
      exact bodyPost_ret (Dr rfl _ _ _ _ _ rfl (run_loadVar_row _ w.heap.size 139 139 _ (0, 0) _ (setRow_heap _ _ _ _ _ _ (HG.out _)) Tryz.underlying139 rfl (by first | kernel_rfl | rfl))) rfl ⟨rfl, Bb (HB.out _) (Nat.le_refl _) _⟩
theorem Ui {w : World} {A : Option Addr} {n c m bt bw q H L M : Nat} {two ten x1 x2 last x3 x4 x5 bI : Int} {hE lE mE ev : Bool} (hA : NV w A n c m)
    (C1 : Hid (∀ W, NV W A n c m → Cq 176 #[.slice A n c] (.int .i64 (bt : Nat)) W))
    (C2 : Hid (∀ W, NV W A n c m → Cp 201 #[.slice A n c, .int .i64 x4] W (NOk q W)))
    (C3 : Hid (∀ W, Cp 187 #[.int .u64 bI] W (NRet bw W)))
    (C4 : Hid (∀ W A1 n1 c1 A2 n2 c2, NV W A1 n1 c1 q → NV W A2 n2 c2 bw → Cp 202 #[.slice A1 n1 c1, .slice A2 n2 c2] W (NOk (q - bw) W)))
    (C5 : Hid (∀ W, Cp 187 #[.int .u64 2] W (NRet 2 W)))
    (C6 : Hid (∀ W A1 n1 c1 A2 n2 c2, NV W A1 n1 c1 q → NV W A2 n2 c2 2 → Cp 203 #[.slice A1 n1 c1, .slice A2 n2 c2] W (NOk (q + 2) W)))
    (S1 : Hid (∀ W A1 n1 c1, NV W A1 n1 c1 q → Cp 200 #[.slice A1 n1 c1, .int .i64 x5, .int .i64 ten] W fun e w' => ∃ A3 n3 c3, e = .returned (.tuple #[.slice A3 n3 c3, .bool hE]) ∧ NV w' A3 n3 c3 H ∧ Below W.heap.size W w'))
    (S2 : Hid (∀ W A1 n1 c1, NV W A1 n1 c1 (q - bw) → Cp 200 #[.slice A1 n1 c1, .int .i64 x5, .int .i64 ten] W fun e w' => ∃ A3 n3 c3, e = .returned (.tuple #[.slice A3 n3 c3, .bool lE]) ∧ NV w' A3 n3 c3 L ∧ Below W.heap.size W w'))
    (S3 : Hid (∀ W A1 n1 c1, NV W A1 n1 c1 (q + 2) → Cp 200 #[.slice A1 n1 c1, .int .i64 x5, .int .i64 ten] W fun e w' => ∃ A3 n3 c3, e = .returned (.tuple #[.slice A3 n3 c3, .bool mE]) ∧ NV w' A3 n3 c3 M ∧ Below W.heap.size W w'))
    (hH : H < 18446744073709551616) (hL : L < 9223372036854775808) (hM : M < 9223372036854775808) (hM0 : 0 < M)
    (k1 : wrap64 ((bt : Int) + two) = x1) (k2 : wrap64 (x1 - 53) = x2) (hmax : max x2 (-1074) = last) (k3 : wrap64 (two - last) = x3) (k4 : wrap64 (x3 + 2) = x4) (k5 : wrap64 (last - 2) = x5)
    (hb : bt ≠ 1 ∧ bI = 2) (hev : decide (last < two) = ev) :
    Ct 147 #[.slice A n c, .int .i64 two, .int .i64 ten] (.agg #[.int .u64 (H : Nat), .bool hE, .int .u64 ((if lE = true ∧ ev = true then L else L + 1 : Nat) : Nat), .int .u64 ((if mE = true ∧ ev = false then M - 1 else M : Nat) : Nat)]) w := by
  have W1 := Lh (fun W A1 n1 c1 (h : NV W A1 n1 c1 H) => Ch h hH)
  have W2 := Lh (fun W A1 n1 c1 (h : NV W A1 n1 c1 L) => Ch h (by omega))
  have W3 := Lh (fun W A1 n1 c1 (h : NV W A1 n1 c1 M) => Ch h (by omega))
  have HA := Lh hA
  have HEV := Lh hev
  have l1 : (L : Int) < 9223372036854775808 := by omega
  have l2 : (M : Int) < 9223372036854775808 := by omega
  have l3 : (0 : Int) < (M : Int) := by omega
  clear hA hH hL hM hM0 hev
  obtain ⟨hbt, rfl⟩ := hb
  all_goals
    first | have tb : ((bt : Int) == 1) = false := by rw [beq_eq_false_iff_ne]; omega
          | have tb : ((bt : Int) == 1) = true := by rw [beq_iff_eq]; omega
    clear hbt
    have HA := Lh (HA.out.step (show Below w.heap.size w (w.alloc (.cells zq 139)) from (Below.refl _ _).alloc (Nat.le_refl _) _))
    have B0 := Lh (show Below w.heap.size w (w.alloc (.cells zq 139)) from (Below.refl _ _).alloc (Nat.le_refl _) _)
    have R0 := Lh (show Rv (w.alloc (.cells zq 139)) w.heap.size zq from heap_alloc_last w _)
    have S0 := Lh (show w.heap.size < (w.alloc (.cells zq 139)).heap.size from by simp)
    unfold zq at HA B0 R0 S0
    go_enter Tryz.func147, Tryz.ntmps147
    go_wp2_with fail
    generalize w.alloc (.cells #[.int .u64 0, .bool false, .int .u64 0, .int .u64 0] 139) = w0 at *
    refine Sm (C1.out _ HA.out) ?_
    go_wp2_with fail
    refine (C2.out _ HA.out).mono ?_
    rintro e w1 ⟨A1, n1, c1, rfl, g1, b1⟩
    have G1 := Lh g1
    have G0 := Lh (HA.out.step b1)
    have B1 := Lh (b1)
    clear g1 b1 hmax k1 k2 k3 k4
    go_wp2_with fail
    refine Sm (C1.out _ G0.out) ?_
    go_wp2_with fail
    refine (C3.out _).mono ?_
    rintro e w2 ⟨A2, n2, c2, rfl, g2, b2⟩
    have G2 := Lh g2
    have G1 := Lh (G1.out.step b2)
    have B2 := Lh (Aa B1.out b2)
    clear g2 b2
    go_wp2_with fail
    refine (C4.out _ _ _ _ _ _ _ G1.out G2.out).mono ?_
    rintro e w3 ⟨A3, n3, c3, rfl, g3, b3⟩
    have G3 := Lh g3
    have G1 := Lh (G1.out.step b3)
    have B3 := Lh (Aa B2.out b3)
    clear g3 b3
    go_wp2_with fail
    refine (C5.out _).mono ?_
    rintro e w4 ⟨A4, n4, c4, rfl, g4, b4⟩
    have G4 := Lh g4
    have G1 := Lh (G1.out.step b4)
    have G3 := Lh (G3.out.step b4)
    have B4 := Lh (Aa B3.out b4)
    clear g4 b4
    go_wp2_with fail
    refine (C6.out _ _ _ _ _ _ _ G1.out G4.out).mono ?_
    rintro e w5 ⟨A5, n5, c5, rfl, g5, b5⟩
    have G5 := Lh g5
    have G1 := Lh (G1.out.step b5)
    have G3 := Lh (G3.out.step b5)
    have B5 := Lh (Aa B4.out b5)
    clear g5 b5
    go_wp2_with fail
    refine (S1.out _ _ _ _ G1.out).mono ?_
    rintro e w6 ⟨A6, n6, c6, rfl, g6, b6⟩
    have G6 := Lh g6
    have G5 := Lh (G5.out.step b6)
    have G3 := Lh (G3.out.step b6)
    have B6 := Lh (Aa B5.out b6)
    clear g6 b6
    go_wp2_with fail
    refine (S2.out _ _ _ _ G3.out).mono ?_
    rintro e w7 ⟨A7, n7, c7, rfl, g7, b7⟩
    have G7 := Lh g7
    have G5 := Lh (G5.out.step b7)
    have G6 := Lh (G6.out.step b7)
    have B7 := Lh (Aa B6.out b7)
    clear g7 b7
    go_wp2_with fail
    refine (S3.out _ _ _ _ G5.out).mono ?_
    rintro e w8 ⟨A8, n8, c8, rfl, g8, b8⟩
    have G8 := Lh g8
    have G7 := Lh (G7.out.step b8)
    have G6 := Lh (G6.out.step b8)
    have B8 := Lh (Aa B7.out b8)
    clear g8 b8 C1 C2 C3 C4 C5 C6 S1 S2 S3
    go_wp2_with fail
    refine Sm (W1.out _ _ _ _ G6.out) ?_
    go_wp2_with fail
    refine Sm (W2.out _ _ _ _ G7.out) ?_
    go_wp2_with fail
    refine Sm (W3.out _ _ _ _ G8.out) ?_
    have HG := Lh (fun c' => show (w8.alloc (.cells c' 139)).heap[w.heap.size]? = some (.cells #[.int .u64 0, .bool false, .int .u64 0, .int .u64 0] 139 (0, 0)) from by
      have hlt : w.heap.size < w8.heap.size := Nat.lt_of_lt_of_le S0.out B8.out.size
      have b1 : Below w8.heap.size w8 (w8.alloc (.cells c' 139)) := (Below.refl _ _).alloc (Nat.le_refl _) _
      exact (b1.block _ hlt).trans ((B8.out.block _ S0.out).trans R0.out))
    have HB := Lh (fun c' => show Below w.heap.size w (w8.alloc (.cells c' 139)) from by
      have b2 := Aa B0.out B8.out
      exact b2.alloc b2.size _)
    have he := HEV.out
    have hL1 : IntKind.u64.wrap ((L : Int) + 1) = ((L + 1 : Nat) : Int) := by rw [IntKind.wrap_u64]; omega
    have hM1 : IntKind.u64.wrap ((M : Int) - 1) = ((M - 1 : Nat) : Int) := by rw [IntKind.wrap_u64]; omega
    clear W1 W2 W3 G6 G7 G8 k5 HA HEV
    first | clear hl | skip
    clear tb l1 l2 l3 B0 B1 B2 B3 B4 B5 B6 B7 B8 S0 R0 G1 G5 G3 G0
    cases ev <;> cases lE <;> cases mE
    all_goals
      go_wp2_with (first | (refine wpList_store_row rfl 139 _ _ rfl w.heap.size _ rfl rfl 139 #[.int .u64 0, .bool false, .int .u64 0, .int .u64 0] (HG.out _) (by first | kernel_rfl | rfl) rfl (by first | kernel_rfl | rfl) ?_))
    all_goals
      exact bodyPost_ret (Dr rfl _ _ _ _ _ rfl (run_loadVar_row _ w.heap.size 139 139 _ (0, 0) _ (setRow_heap _ _ _ _ _ _ (HG.out _)) Tryz.underlying139 rfl (by first | kernel_rfl | rfl))) rfl ⟨rfl, Bb (HB.out _) (Nat.le_refl _) _⟩
end
section
theorem Zm {w : World} {A : Option Addr} {n c m bt bw q H L M : Nat} {two ten x1 x2 last x3 x4 x5 bI : Int} {hE lE mE ev : Bool} (hA : NV w A n c m)
    (C1 : Hid (∀ W, NV W A n c m → Cq 176 #[.slice A n c] (.int .i64 (bt : Nat)) W))
    (C2 : Hid (∀ W, NV W A n c m → Cp 201 #[.slice A n c, .int .i64 x4] W (NOk q W)))
    (C3 : Hid (∀ W, Cp 187 #[.int .u64 bI] W (NRet bw W)))
    (C4 : Hid (∀ W A1 n1 c1 A2 n2 c2, NV W A1 n1 c1 q → NV W A2 n2 c2 bw → Cp 202 #[.slice A1 n1 c1, .slice A2 n2 c2] W (NOk (q - bw) W)))
    (C5 : Hid (∀ W, Cp 187 #[.int .u64 2] W (NRet 2 W)))
    (C6 : Hid (∀ W A1 n1 c1 A2 n2 c2, NV W A1 n1 c1 q → NV W A2 n2 c2 2 → Cp 203 #[.slice A1 n1 c1, .slice A2 n2 c2] W (NOk (q + 2) W)))
    (S1 : Hid (∀ W A1 n1 c1, NV W A1 n1 c1 q → Cp 200 #[.slice A1 n1 c1, .int .i64 x5, .int .i64 ten] W fun e w' => ∃ A3 n3 c3, e = .returned (.tuple #[.slice A3 n3 c3, .bool hE]) ∧ NV w' A3 n3 c3 H ∧ Below W.heap.size W w'))
    (S2 : Hid (∀ W A1 n1 c1, NV W A1 n1 c1 (q - bw) → Cp 200 #[.slice A1 n1 c1, .int .i64 x5, .int .i64 ten] W fun e w' => ∃ A3 n3 c3, e = .returned (.tuple #[.slice A3 n3 c3, .bool lE]) ∧ NV w' A3 n3 c3 L ∧ Below W.heap.size W w'))
    (S3 : Hid (∀ W A1 n1 c1, NV W A1 n1 c1 (q + 2) → Cp 200 #[.slice A1 n1 c1, .int .i64 x5, .int .i64 ten] W fun e w' => ∃ A3 n3 c3, e = .returned (.tuple #[.slice A3 n3 c3, .bool mE]) ∧ NV w' A3 n3 c3 M ∧ Below W.heap.size W w'))
    (hH : H < 18446744073709551616) (hL : L < 9223372036854775808) (hM : M < 9223372036854775808) (hM0 : 0 < M)
    (k1 : wrap64 ((bt : Int) + two) = x1) (k2 : wrap64 (x1 - 53) = x2) (hmax : max x2 (-1074) = last) (k3 : wrap64 (two - last) = x3) (k4 : wrap64 (x3 + 2) = x4) (k5 : wrap64 (last - 2) = x5)
    (hb : bt = 1 ∧ decide (-1074 < last) = false ∧ bI = 2) (hev : decide (last < two) = ev) :
    Ct 147 #[.slice A n c, .int .i64 two, .int .i64 ten] (.agg #[.int .u64 (H : Nat), .bool hE, .int .u64 ((if lE = true ∧ ev = true then L else L + 1 : Nat) : Nat), .int .u64 ((if mE = true ∧ ev = false then M - 1 else M : Nat) : Nat)]) w := by
  have W1 := Lh (fun W A1 n1 c1 (h : NV W A1 n1 c1 H) => Ch h hH)
  have W2 := Lh (fun W A1 n1 c1 (h : NV W A1 n1 c1 L) => Ch h (by omega))
  have W3 := Lh (fun W A1 n1 c1 (h : NV W A1 n1 c1 M) => Ch h (by omega))
  have HA := Lh hA
  have HEV := Lh hev
  have l1 : (L : Int) < 9223372036854775808 := by omega
  have l2 : (M : Int) < 9223372036854775808 := by omega
  have l3 : (0 : Int) < (M : Int) := by omega
  clear hA hH hL hM hM0 hev
  obtain ⟨hbt, hl, rfl⟩ := hb
  all_goals
    first | have tb : ((bt : Int) == 1) = false := by rw [beq_eq_false_iff_ne]; omega
          | have tb : ((bt : Int) == 1) = true := by rw [beq_iff_eq]; omega
    clear hbt
    have HA := Lh (HA.out.step (show Below w.heap.size w (w.alloc (.cells zq 139)) from (Below.refl _ _).alloc (Nat.le_refl _) _))
    have B0 := Lh (show Below w.heap.size w (w.alloc (.cells zq 139)) from (Below.refl _ _).alloc (Nat.le_refl _) _)
    have R0 := Lh (show Rv (w.alloc (.cells zq 139)) w.heap.size zq from heap_alloc_last w _)
    have S0 := Lh (show w.heap.size < (w.alloc (.cells zq 139)).heap.size from by simp)
    unfold zq at HA B0 R0 S0
    go_enter Tryz.func147, Tryz.ntmps147
    go_wp2_with fail
    generalize w.alloc (.cells #[.int .u64 0, .bool false, .int .u64 0, .int .u64 0] 139) = w0 at *
    refine Sm (C1.out _ HA.out) ?_
    go_wp2_with fail
    refine (C2.out _ HA.out).mono ?_
    rintro e w1 ⟨A1, n1, c1, rfl, g1, b1⟩
    have G1 := Lh g1
    have G0 := Lh (HA.out.step b1)
    have B1 := Lh (b1)
    clear g1 b1 hmax k1 k2 k3 k4
    go_wp2_with fail
    refine Sm (C1.out _ G0.out) ?_
    go_wp2_with fail
    refine (C3.out _).mono ?_
    rintro e w2 ⟨A2, n2, c2, rfl, g2, b2⟩
    have G2 := Lh g2
    have G1 := Lh (G1.out.step b2)
    have B2 := Lh (Aa B1.out b2)
    clear g2 b2
    go_wp2_with fail
    refine (C4.out _ _ _ _ _ _ _ G1.out G2.out).mono ?_
    rintro e w3 ⟨A3, n3, c3, rfl, g3, b3⟩
    have G3 := Lh g3
    have G1 := Lh (G1.out.step b3)
    have B3 := Lh (Aa B2.out b3)
    clear g3 b3
    go_wp2_with fail
    refine (C5.out _).mono ?_
    rintro e w4 ⟨A4, n4, c4, rfl, g4, b4⟩
    have G4 := Lh g4
    have G1 := Lh (G1.out.step b4)
    have G3 := Lh (G3.out.step b4)
    have B4 := Lh (Aa B3.out b4)
    clear g4 b4
    go_wp2_with fail
    refine (C6.out _ _ _ _ _ _ _ G1.out G4.out).mono ?_
    rintro e w5 ⟨A5, n5, c5, rfl, g5, b5⟩
    have G5 := Lh g5
    have G1 := Lh (G1.out.step b5)
    have G3 := Lh (G3.out.step b5)
    have B5 := Lh (Aa B4.out b5)
    clear g5 b5
    go_wp2_with fail
    refine (S1.out _ _ _ _ G1.out).mono ?_
    rintro e w6 ⟨A6, n6, c6, rfl, g6, b6⟩
    have G6 := Lh g6
    have G5 := Lh (G5.out.step b6)
    have G3 := Lh (G3.out.step b6)
    have B6 := Lh (Aa B5.out b6)
    clear g6 b6
    go_wp2_with fail
    refine (S2.out _ _ _ _ G3.out).mono ?_
    rintro e w7 ⟨A7, n7, c7, rfl, g7, b7⟩
    have G7 := Lh g7
    have G5 := Lh (G5.out.step b7)
    have G6 := Lh (G6.out.step b7)
    have B7 := Lh (Aa B6.out b7)
    clear g7 b7
    go_wp2_with fail
    refine (S3.out _ _ _ _ G5.out).mono ?_
    rintro e w8 ⟨A8, n8, c8, rfl, g8, b8⟩
    have G8 := Lh g8
    have G7 := Lh (G7.out.step b8)
    have G6 := Lh (G6.out.step b8)
    have B8 := Lh (Aa B7.out b8)
    clear g8 b8 C1 C2 C3 C4 C5 C6 S1 S2 S3
    go_wp2_with fail
    refine Sm (W1.out _ _ _ _ G6.out) ?_
    go_wp2_with fail
    refine Sm (W2.out _ _ _ _ G7.out) ?_
    go_wp2_with fail
    refine Sm (W3.out _ _ _ _ G8.out) ?_
    have HG := Lh (fun c' => show (w8.alloc (.cells c' 139)).heap[w.heap.size]? = some (.cells #[.int .u64 0, .bool false, .int .u64 0, .int .u64 0] 139 (0, 0)) from by
      have hlt : w.heap.size < w8.heap.size := Nat.lt_of_lt_of_le S0.out B8.out.size
      have b1 : Below w8.heap.size w8 (w8.alloc (.cells c' 139)) := (Below.refl _ _).alloc (Nat.le_refl _) _
      exact (b1.block _ hlt).trans ((B8.out.block _ S0.out).trans R0.out))
    have HB := Lh (fun c' => show Below w.heap.size w (w8.alloc (.cells c' 139)) from by
      have b2 := Aa B0.out B8.out
      exact b2.alloc b2.size _)
    have he := HEV.out
    have hL1 : IntKind.u64.wrap ((L : Int) + 1) = ((L + 1 : Nat) : Int) := by rw [IntKind.wrap_u64]; omega
    have hM1 : IntKind.u64.wrap ((M : Int) - 1) = ((M - 1 : Nat) : Int) := by rw [IntKind.wrap_u64]; omega
    clear W1 W2 W3 G6 G7 G8 k5 HA HEV
    first | clear hl | skip
    clear tb l1 l2 l3 B0 B1 B2 B3 B4 B5 B6 B7 B8 S0 R0 G1 G5 G3 G0
    cases ev <;> cases lE <;> cases mE
    all_goals
      go_wp2_with (first | (refine wpList_store_row rfl 139 _ _ rfl w.heap.size _ rfl rfl 139 #[.int .u64 0, .bool false, .int .u64 0, .int .u64 0] (HG.out _) (by first | kernel_rfl | rfl) rfl (by first | kernel_rfl | rfl) ?_))
    all_goals
      exact bodyPost_ret (Dr rfl _ _ _ _ _ rfl (run_loadVar_row _ w.heap.size 139 139 _ (0, 0) _ (setRow_heap _ _ _ _ _ _ (HG.out _)) Tryz.underlying139 rfl (by first | kernel_rfl | rfl))) rfl ⟨rfl, Bb (HB.out _) (Nat.le_refl _) _⟩
end
section
theorem Gv {W : World} {A : Option Addr} {n c N V x y : Nat} {two ten : Int} (hA : NV W A n c N) (hm : bln N ≤ 2000) (h1 : -1000 ≤ ten) (h2 : ten ≤ 1000) (h3 : -3000 ≤ two) (h4 : two ≤ 3000)
  (hq : scA N two ten / scB two ten = V) (hb : scA N two ten % scB two ten = 0 ↔ x % y = 0) :
  Cp 200 #[.slice A n c, .int .i64 two, .int .i64 ten] W fun e w' => ∃ A3 n3 c3, e = .returned (.tuple #[.slice A3 n3 c3, .bool (decide (x % y = 0))]) ∧ NV w' A3 n3 c3 V ∧ Below W.heap.size W w' := by
 refine (I0 two ten hA hm h1 h2 h3 h4).mono ?_
 rintro e w' ⟨A3, n3, c3, rfl, hv, hw⟩
 rw [hq] at hv
 rw [decide_eq_decide.2 hb]
 exact ⟨A3, n3, c3, rfl, hv, hw⟩
def Af1 (r : Nat) (n : Int) (w : World) (e : Ending) (w' : World) : Prop :=
 ∃ M : Nat, e = .returned (.agg #[.int .u64 ((vU r (18 - n) / vV (18 - n) : Nat) : Int), .bool (decide (vU r (18 - n) % vV (18 - n) = 0)), .int .u64 ((Ca (vV (18 - n)) (10 ^ ((18 : Int) - n).toNat) r : Nat) : Int), .int .u64 (M : Nat)]) ∧
  (∀ c, c ≤ M ↔ Dc (vV (18 - n)) (10 ^ ((18 : Int) - n).toNat) r c) ∧ Below w.heap.size w w'
theorem Xu {w : World} {A : Option Addr} {n0 c0 r m : Nat} {two n : Int} (hA : NV w A n0 c0 m) (hp : PartIs r m two) (h0 : 0 < r) (hpt : Bo (Ac r) big n) (hn1 : -345 ≤ n) (hn2 : n ≤ 335) :
  Cp 147 #[.slice A n0 c0, .int .i64 two, .int .i64 (18 - n)] w (Af1 r n w) := by
 obtain ⟨q1, q2, q3, q4, q5, q6⟩ := hp.pos
 obtain ⟨c, D, k, h1, h2, h3, h4, h5, h6, h7, h8⟩ := hp
 obtain ⟨s, hs⟩ : ∃ s, (18 : Int) - n = s := ⟨_, rfl⟩
 have hbc := Mq (k := k) q1
 rw [← h4] at hbc
 have hc0 : 0 < c := by rw [h4]; exact Nat.mul_pos q1 (As k)
 obtain ⟨b1, b2, b3⟩ := A9 hc0
 have hb53 : bln c ≤ 53 := E7 (by omega)
 have hb53' : 4503599627370496 ≤ c → bln c = 53 := by
  intro h
  exact Te (L := 52) (by omega) (by omega)
 -- the ends, in Sj
 obtain ⟨e1, e2⟩ := Sj h1 h2 h3 h0
 have hHc := Ss (s := s) (K := 1074) rfl h1 h2 h3 h4
 have hp2 : m * 2 ^ (k + 2) = 4 * c := by rw [h4, Nat.pow_add]; grind
 have hMc := Nb (N := 4 * c + 2) (S := Ac r + Ac (r + 1)) (s := s) (K := 1074) rfl e1
 obtain ⟨bw, hbw⟩ : ∃ bw, (if c = 4503599627370496 ∧ 0 < D then 1 else 2) = bw := ⟨_, rfl⟩
 rw [hbw] at e2
 have hLc := Nb (N := 4 * c - bw) (S := Ac (r - 1) + Ac r) (s := s) (K := 1074) rfl e2
 have hvV := Cw s
 have hsc := Vn ((D : Int) - 1076) s
 have H1 := (Ds hsc hvV hHc).1
 have H2 := Ha hsc hvV hHc
 have M1 := (Ds hsc (by omega) hMc).1
 have M2 := Ha hsc (by omega) hMc
 have L1 := (Ds hsc (by omega) hLc).1
 have L2 := Ha hsc (by omega) hLc
 have hH := (Jr hpt).1
 have hM := Aeh h0 hpt
 have hL := Adb h0 hpt
 unfold Af1
 rw [hs] at hH hM hL ⊢
 have hbw2 : bw ≤ 2 := by rw [← hbw]; split <;> omega
 rw [hp2] at H1 H2
 -- how many bits
 have bl4 : bln (4 * c + 2) ≤ 100 := E7 (by omega)
 have bl4' : bln (4 * c) ≤ 100 := E7 (by omega)
 have bl4'' : bln (4 * c - bw) ≤ 100 := E7 (by omega)
 have S1 := Lh (fun W A1 n1 c1 (h : NV W A1 n1 c1 (4 * c)) => Gv (two := (D : Int) - 1076) (ten := s) h (by omega) (by omega) (by omega) (by omega) (by omega) H1 H2)
 have S2 := Lh (fun W A1 n1 c1 (h : NV W A1 n1 c1 (4 * c - bw)) => Gv (two := (D : Int) - 1076) (ten := s) h (by omega) (by omega) (by omega) (by omega) (by omega) L1 L2)
 have S3 := Lh (fun W A1 n1 c1 (h : NV W A1 n1 c1 (4 * c + 2)) => Gv (two := (D : Int) - 1076) (ten := s) h (by omega) (by omega) (by omega) (by omega) (by omega) M1 M2)
 have C1 := Lh (fun W (h : NV W A n0 c0 m) => Ve h (by omega))
 have C2 := Lh (fun W (h : NV W A n0 c0 m) => Agf h (k + 2) (by omega))
 rw [hp2] at C2
 have C4 := Lh (fun W A1 n1 c1 A2 n2 c2 (h : NV W A1 n1 c1 (4 * c)) (g : NV W A2 n2 c2 bw) => Ah2 h g (by omega) (by omega))
 have C5 := Lh (fun W => nof 2 (by omega) W)
 have C6 := Lh (fun W A1 n1 c1 A2 n2 c2 (h : NV W A1 n1 c1 (4 * c)) (g : NV W A2 n2 c2 2) => Ahv h g (by omega))
 have hev : decide (((D : Int) - 1074) < two) = decide (r % 2 = 0) := by
  refine decide_eq_decide.2 ?_
  rcases Nat.eq_zero_or_pos k with hk | hk
  ·rw [hk, Nat.pow_zero, Nat.mul_one] at h4
   omega
  ·obtain ⟨j, rfl⟩ : ∃ j, k = j + 1 := ⟨k - 1, by omega⟩
   rw [Nat.pow_succ, ← Nat.mul_assoc] at h4
   omega
 have hmax : max ((bln m : Int) + two - 53) (-1074) = (D : Int) - 1074 := by
  rcases Nat.eq_zero_or_pos D with hD | hD
  ·omega
  ·have := hb53' (by omega)
   omega
 have hpow : bln m = 1 → c = 2 ^ k := by
  intro h
  obtain ⟨u1, u2, _⟩ := A9 q1
  rw [h] at u1 u2
  simp at u1 u2
  have : m = 1 := by omega
  rw [h4, this, Nat.one_mul]
 have fin : ∀ (e : Ending) (w' : World), (e = .returned (.agg #[.int .u64 ((vU r s / vV s : Nat) : Int), .bool (decide (vU r s % vV s = 0)), .int .u64 ((if decide ((Ac (r - 1) + Ac r) * 10 ^ s.toNat % (2 * vV s) = 0) = true ∧ decide (r % 2 = 0) = true then (Ac (r - 1) + Ac r) * 10 ^ s.toNat / (2 * vV s) else (Ac (r - 1) + Ac r) * 10 ^ s.toNat / (2 * vV s) + 1 : Nat) : Int), .int .u64 ((if decide ((Ac r + Ac (r + 1)) * 10 ^ s.toNat % (2 * vV s) = 0) = true ∧ decide (r % 2 = 0) = false then (Ac r + Ac (r + 1)) * 10 ^ s.toNat / (2 * vV s) - 1 else (Ac r + Ac (r + 1)) * 10 ^ s.toNat / (2 * vV s) : Nat) : Int)]) ∧ Below w.heap.size w w') → ∃ M : Nat, e = .returned (.agg #[.int .u64 ((vU r s / vV s : Nat) : Int), .bool (decide (vU r s % vV s = 0)), .int .u64 ((Ca (vV s) (10 ^ s.toNat) r : Nat) : Int), .int .u64 (M : Nat)]) ∧ (∀ c, c ≤ M ↔ Dc (vV s) (10 ^ s.toNat) r c) ∧ Below w.heap.size w w' := by
  rintro e w' ⟨he, hw⟩
  have hle : (if decide ((Ac (r - 1) + Ac r) * 10 ^ s.toNat % (2 * vV s) = 0) = true ∧ decide (r % 2 = 0) = true then (Ac (r - 1) + Ac r) * 10 ^ s.toNat / (2 * vV s) else (Ac (r - 1) + Ac r) * 10 ^ s.toNat / (2 * vV s) + 1) = Ca (vV s) (10 ^ s.toNat) r := by
   unfold Ca
   by_cases g : (Ac (r - 1) + Ac r) * 10 ^ s.toNat % (2 * vV s) = 0 <;> by_cases g2 : r % 2 = 0 <;> simp [g, g2]
  rw [hle] at he
  refine ⟨(if decide ((Ac r + Ac (r + 1)) * 10 ^ s.toNat % (2 * vV s) = 0) = true ∧ decide (r % 2 = 0) = false then (Ac r + Ac (r + 1)) * 10 ^ s.toNat / (2 * vV s) - 1 else (Ac r + Ac (r + 1)) * 10 ^ s.toNat / (2 * vV s)), he, ?_, hw⟩
  ·intro c
   unfold Dc
   have := hM.2
   by_cases g : (Ac r + Ac (r + 1)) * 10 ^ s.toNat % (2 * vV s) = 0 <;> by_cases g2 : r % 2 = 0 <;> simp [g, g2] <;> omega
 rcases Nat.decEq (bln m) 1 with hb | hb
 ·have hbw' : bw = 2 := by
   rw [← hbw, if_neg]
   rintro ⟨g1, g2⟩
   apply hb
   have hb2 : bln c = 53 := by rw [g1]; exact Te (L := 52) (by omega) (by omega)
   have hk : k = 52 := by
    rcases Nat.lt_or_ge k 52 with h | h
    ·exfalso
     obtain ⟨d, hd⟩ : ∃ d, 52 = k + (d + 1) := ⟨52 - k - 1, by omega⟩
     have : m * 2 ^ k = 2 ^ (d + 1) * 2 ^ k := by rw [← h4, g1, ← Nat.pow_add, Nat.add_comm, ← hd]
     have := Nat.eq_of_mul_eq_mul_right (As k) this
     rw [Nat.pow_succ] at this
     omega
    ·omega
   omega
  subst hbw'
  have C3 := Lh (fun W => nof 2 (by omega) W)
  refine (Ui (bI := 2) (x4 := ((k + 2 : Nat) : Int)) (x5 := (D : Int) - 1076) (last := (D : Int) - 1074) (x1 := (bln m : Int) + two) (x2 := (bln m : Int) + two - 53) (x3 := (k : Int)) (two := two) (ten := s) hA C1 C2 C3 C4 C5 C6 S1 S2 S3 (by omega) (by omega) (by omega) hM.2 (by unfold wrap64; omega) (by unfold wrap64; omega) hmax (by unfold wrap64; omega) (by unfold wrap64; omega) (by unfold wrap64; omega) ⟨hb, rfl⟩ hev).mono ?_
  exact fin
 ·have hc2 := hpow hb
  rcases Nat.eq_zero_or_pos D with hD | hD
  ·have hbw' : bw = 2 := by
    rw [← hbw, if_neg]
    omega
   subst hbw'
   have C3 := Lh (fun W => nof 2 (by omega) W)
   refine (Zm (bI := 2) (x4 := ((k + 2 : Nat) : Int)) (x5 := (D : Int) - 1076) (last := (D : Int) - 1074) (x1 := (bln m : Int) + two) (x2 := (bln m : Int) + two - 53) (x3 := (k : Int)) (two := two) (ten := s) hA C1 C2 C3 C4 C5 C6 S1 S2 S3 (by omega) (by omega) (by omega) hM.2 (by unfold wrap64; omega) (by unfold wrap64; omega) hmax (by unfold wrap64; omega) (by unfold wrap64; omega) (by unfold wrap64; omega) ⟨hb, decide_eq_false (by omega), rfl⟩ hev).mono ?_
   exact fin
  ·have hbw' : bw = 1 := by
    have := hb53' (by omega)
    have hk : k = 52 := by omega
    rw [← hbw, if_pos]
    rw [hk] at hc2
    omega
   subst hbw'
   have C3 := Lh (fun W => nof 1 (by omega) W)
   refine (Xb (bI := 1) (x4 := ((k + 2 : Nat) : Int)) (x5 := (D : Int) - 1076) (last := (D : Int) - 1074) (x1 := (bln m : Int) + two) (x2 := (bln m : Int) + two - 53) (x3 := (k : Int)) (two := two) (ten := s) hA C1 C2 C3 C4 C5 C6 S1 S2 S3 (by omega) (by omega) (by omega) hM.2 (by unfold wrap64; omega) (by unfold wrap64; omega) hmax (by unfold wrap64; omega) (by unfold wrap64; omega) (by unfold wrap64; omega) ⟨hb, by omega, rfl⟩ hev).mono ?_
   exact fin
end
section
theorem Abk {x : Nat} (h0 : 0 < x) (hx : x < 9218868437227405312) : Aw x = x ∧ Adp x = false := by
 have h1 : Aw x = x := by unfold Aw; omega
 have h2 : Bj x = false := by unfold Bj; rw [show x / 9223372036854775808 % 2 = 0 by omega]; rfl
 refine ⟨h1, ?_⟩
 unfold Adp Bh Ee
 rw [h1, h2, decide_eq_false (by omega), decide_eq_false (by omega)]
 rfl
theorem Qq {x k m : Nat} (h0 : 0 < x) (hx : x < 9218868437227405312) (h : Ci x = 2 ^ (k + 1) * m + 2 ^ k) : PartIs x (2 * m + 1) (Ji x + (k : Nat)) := by
 obtain ⟨p1, p2⟩ := He h0
 have hk : k ≤ 52 := by
  have h1 : 2 ^ k < 2 ^ 53 := by omega
  have := (Nat.pow_lt_pow_iff_right (by omega)).1 h1
  omega
 have hc : Ci x = (2 * m + 1) * 2 ^ k := by
  rw [h, Nat.pow_succ]
  grind
 by_cases hq : x / 4503599627370496 = 0
 ·refine ⟨Ci x, 0, k, ?_, p2, .inl rfl, hc, ?_, by omega, by omega, hk⟩
  ·unfold Ci
   rw [if_pos hq]
   omega
  ·unfold Ji
   rw [if_pos hq]
   omega
 ·refine ⟨Ci x, x / 4503599627370496 - 1, k, ?_, p2, .inr ?_, hc, ?_, by omega, by omega, hk⟩
  ·unfold Ci
   rw [if_neg hq]
   omega
  ·unfold Ci
   rw [if_neg hq]
   omega
  ·unfold Ji
   rw [if_neg hq]
   omega
def Ky (x : Nat) (w : World) (e : Ending) (w' : World) : Prop := ∃ m two A n c, e = .returned (.tuple #[.slice A n c, .int .i64 two, .int .i64 0]) ∧ NV w' A n c m ∧ PartIs x m two ∧ Below w.heap.size w w'
theorem PartsP.q {x : Nat} {w w' : World} {e : Ending} (h0 : 0 < x) (hx : x < 9218868437227405312) (h : PartsP x w e w') : Ky x w e w' := by
 obtain ⟨k, m, A, n, c, h1, rfl, ⟨h2, h3, h4⟩, h5⟩ := h
 exact ⟨2 * m + 1, _, A, n, c, rfl, ⟨h2.symm, h3, h4⟩, Qq h0 hx h1, h5⟩
theorem Ts (x : Nat) (w : World) (h0 : 0 < x) (hx : x < 9218868437227405312) (ht : Cg w) : Cp 145 #[.float .f64 x] w (Ky x w) := by
 obtain ⟨h1, h2⟩ := Abk h0 hx
 exact (Yd x w (by omega) h2 (by omega) ht).mono fun e w' h => h.q h0 hx
theorem Nt (x N : Nat) (w : World) (D : ByteArray) (p : Int)
  (t1 : (FloatKind.f64.format.order x 4845873199050653696 == some .lt) = true)
  (hc : ∀ W : World, (convert 22 40 (.float .f64 x)).run Tryz.prog W = .ok (.int .u64 (N : Int)) W)
  (t2 : (FloatKind.f64.format.order x (floatOfInt FloatKind.f64 (N : Int)) == some .eq) = true)
  (C5 : Hid (∀ W, W = w → Ct 144 #[.int .u64 N, .int .i64 0] (.tuple #[.string D, .int .i64 p]) W)) :
  Ct 116 #[.float .f64 x] (.tuple #[.string D, .int .i64 p]) w := by
 go_enter Tryz.func116, Tryz.ntmps116
 go_wp2_with fail
 refine Bm (C5.out _ rfl) fun w1 b1 => ?_
 go_wp2
 go_ret2
 exact ⟨rfl, b1⟩
def Abb (r : Nat) (n : Int) (k : Nat) (w : World) (e : Ending) (w' : World) : Prop := ∃ (v : Nat) (b : Bool), e = .returned (.tuple #[.int .u64 (v : Int), .bool b]) ∧ (b = true → ∃ c, cnd r n k = some c ∧ v = c * 10 ^ (18 - k)) ∧ (b = false → cnd r n k = none) ∧ Below w.heap.size w w'
def Ii (r : Nat) (w : World) (e : Ending) (w' : World) : Prop := ∃ L p, e = .returned (.tuple #[.string (Ab L), .int .i64 p]) ∧ SQ r L p ∧ Below w.heap.size w w'
def UnitAt (r : Nat) (n : Int) (u : Int) (k : Nat) : Prop := 1 ≤ k ∧ k ≤ 17 ∧ u = ((10 ^ (18 - k) : Nat) : Int) ∧ ∀ j, 1 ≤ j → j < k → cnd r n j = none
theorem UnitAt.next {r k : Nat} {n u : Int} (h : UnitAt r n u k) (hn : cnd r n k = none) (h17 : cnd r n 17 ≠ none) : UnitAt r n (IntKind.u64.wrap (u / 10)) (k + 1) ∧ (IntKind.u64.wrap (u / 10)) = u / 10 := by
 obtain ⟨h1, h2, rfl, h4⟩ := h
 have hk : k ≠ 17 := fun h => h17 (h ▸ hn)
 obtain ⟨i, hi⟩ : ∃ i, 18 - k = i + 1 := ⟨17 - k, by omega⟩
 have e1 : ((10 ^ (18 - k) : Nat) : Int) / 10 = ((10 ^ (18 - (k + 1)) : Nat) : Int) := by
  rw [hi, show 18 - (k + 1) = i by omega, Nat.pow_succ]
  omega
 have hle : 10 ^ (18 - (k + 1)) ≤ 10 ^ 18 := Nat.pow_le_pow_right (by omega) (by omega)
 have e2 : IntKind.u64.wrap (((10 ^ (18 - k) : Nat) : Int) / 10) = ((10 ^ (18 - k) : Nat) : Int) / 10 := by
  rw [e1, IntKind.wrap_u64]
  generalize 10 ^ (18 - (k + 1)) = b at *
  omega
 refine ⟨⟨by omega, by omega, by rw [e2, e1], ?_⟩, e2⟩
 intro j hj1 hj2
 rcases Nat.lt_or_ge j k with h | h
 ·exact h4 j hj1 h
 ·rw [show j = k by omega]
  exact hn
theorem UnitAt.bd {r k : Nat} {n u : Int} (h : UnitAt r n u k) : 0 < u ∧ u ≤ 100000000000000000 := by
 obtain ⟨h1, h2, rfl, h4⟩ := h
 have hle : 10 ^ (18 - k) ≤ 10 ^ 17 := Nat.pow_le_pow_right (by omega) (by omega)
 have := Aq (18 - k)
 omega
theorem Pz (x N : Nat) (n s18 m18 : Int) (w : World) (HH LL : Nat) (ex : Bool) (PM : Nat → Prop)
  (t1 : (FloatKind.f64.format.order x 4845873199050653696 == some .lt) = true)
  (hc : ∀ W : World, (convert 22 40 (.float .f64 x)).run Tryz.prog W = .ok (.int .u64 (N : Int)) W)
  (t2 : (FloatKind.f64.format.order x (floatOfInt FloatKind.f64 (N : Int)) == some .eq) = false)
  (h17 : Hid (cnd x n 17 ≠ none)) (k1 : wrap64 (18 - n) = s18) (k2 : wrap64 (n - 18) = m18)
  (C1 : Hid (∀ W, W = w → Cp 145 #[.float .f64 x] W (Ky x W)))
  (C2 : Hid (∀ W A c0 n0 m two, NV W A n0 c0 m → PartIs x m two → Ct 146 #[.slice A n0 c0, .int .i64 two] (.int .i64 n) W))
  (C3 : Hid (∀ W A c0 n0 m two, NV W A n0 c0 m → PartIs x m two → Cp 147 #[.slice A n0 c0, .int .i64 two, .int .i64 s18] W fun e w' => ∃ M : Nat, e = .returned (.agg #[.int .u64 (HH : Nat), .bool ex, .int .u64 (LL : Nat), .int .u64 M]) ∧ PM M ∧ Below W.heap.size W w'))
  (C4 : Hid (∀ W M u k, PM M → UnitAt x n u k → Cp 148 #[.agg #[.int .u64 (HH : Nat), .bool ex, .int .u64 (LL : Nat), .int .u64 M], .int .u64 u] W (Abb x n k W)))
  (C5 : Hid (∀ W u k c, Below w.heap.size w W → UnitAt x n u k → cnd x n k = some c → Cp 144 #[.int .u64 ((c * 10 ^ (18 - k) : Nat) : Int), .int .i64 m18] W (Ii x W))) :
  Cp 116 #[.float .f64 x] w (Ii x w) := by
 go_enter Tryz.func116, Tryz.ntmps116
 go_wp2_with fail
 refine (C1.out _ rfl).mono ?_
 rintro e w1 ⟨m, two, A, n0, c0, rfl, g1, hp, b1⟩
 have G1 := Lh g1
 have HP := Lh hp
 have B1 := Lh b1
 clear g1 hp b1
 go_wp2_with fail
 refine Bm (C2.out _ _ _ _ _ _ G1.out HP.out) fun w2 b2 => ?_
 have G2 := Lh (G1.out.step b2)
 have B2 := Lh (Aa B1.out b2)
 clear b2
 go_wp2_with fail
 refine (C3.out _ _ _ _ _ _ G2.out HP.out).mono ?_
 rintro e w3 ⟨M, rfl, hM, b3⟩
 have HM := Lh hM
 have B3 := Lh (Aa B2.out b3)
 clear b3 hM
 go_wp2_with fail
 have B4 := Lh (Ec (.cells #[.int .u64 (HH : Nat), .bool ex, .int .u64 (LL : Nat), .int .u64 M] 139) B3.out)
 have R4 := Lh (show Rv (w3.alloc (.cells #[.int .u64 (HH : Nat), .bool ex, .int .u64 (LL : Nat), .int .u64 M] 139)) w3.heap.size #[.int .u64 (HH : Nat), .bool ex, .int .u64 (LL : Nat), .int .u64 M] from heap_alloc_last w3 _)
 have S4 := Lh (show w3.heap.size < (w3.alloc (.cells #[.int .u64 (HH : Nat), .bool ex, .int .u64 (LL : Nat), .int .u64 M] 139)).heap.size from by simp)
 have N4 := Lh (show UnitAt x n 100000000000000000 1 from ⟨by omega, by omega, rfl, fun j h1 h2 => by omega⟩)
 obtain ⟨gb, hgb⟩ : ∃ gb, w3.heap.size = gb := ⟨_, rfl⟩
 rw [hgb] at R4 S4 ⊢
 clear hgb
 generalize w3.alloc (.cells #[.int .u64 (HH : Nat), .bool ex, .int .u64 (LL : Nat), .int .u64 M] 139) = w4 at *
 go_loopw [9] (fun u wr => ∃ (v : Int) (k : Nat), u = .int .u64 v ∧ Hid (UnitAt x n v k) ∧ Hid (Rv wr gb #[.int .u64 (HH : Nat), .bool ex, .int .u64 (LL : Nat), .int .u64 M]) ∧ Hid (Below w.heap.size w wr) ∧ Hid (gb < wr.heap.size)) (fun u _ => (intOf u).toNat)
 case atStart => exact ⟨_, 1, rfl, N4, R4, B4, S4⟩
 case round =>
  obtain ⟨v, k, rfl, NK, R5, B5, S5⟩ := hrel
  obtain ⟨v0, v1⟩ := NK.out.bd
  have d0 : wr.cell? ⟨gb, 0, none⟩ = some (.int .u64 (HH : Nat)) := cell_of_row wr gb 0 _ 139 (0, 0) R5.out
  have d1 : wr.cell? ⟨gb, 1, none⟩ = some (.bool ex) := cell_of_row wr gb 1 _ 139 (0, 0) R5.out
  have d2 : wr.cell? ⟨gb, 2, none⟩ = some (.int .u64 (LL : Nat)) := cell_of_row wr gb 2 _ 139 (0, 0) R5.out
  have d3 : wr.cell? ⟨gb, 3, none⟩ = some (.int .u64 M) := cell_of_row wr gb 3 _ 139 (0, 0) R5.out
  go_wp2_with fail
  refine (C4.out _ _ _ _ HM.out NK.out).mono ?_
  rintro e w6 ⟨v', b, rfl, hb1, hb0, b6⟩
  have HB1 := Lh hb1
  have HB0 := Lh hb0
  have B6 := Lh (Aa B5.out b6)
  have R6 := Lh (show Rv w6 gb _ from (b6.block _ S5.out).trans R5.out)
  have S6 := Lh (Nat.lt_of_lt_of_le S5.out b6.size)
  clear hb1 hb0 b6 d0 d1 d2 d3
  cases b
  ·have hn := HB0.out rfl
   obtain ⟨u1, u2⟩ := NK.out.next hn h17.out
   rw [u2] at u1
   have NN := Lh u1
   clear hn u1 u2
   go_wp2
   go_roundw
   case rel => exact ⟨_, k + 1, rfl, NN, R6, B6, S6⟩
   case measure => simp [intOf]; omega
  ·obtain ⟨c, hc, rfl⟩ := HB1.out rfl
   have HC := Lh hc
   clear hc
   go_wp2_with fail
   refine (C5.out _ _ _ _ B6.out NK.out HC.out).mono ?_
   rintro e w7 ⟨L, p, rfl, hq, b7⟩
   have HQ := Lh hq
   have B7 := Lh (Aa B6.out b7)
   clear hq b7
   go_wp2
   go_ret2
   exact ⟨L, p, rfl, HQ.out, B7.out⟩
theorem Se (x : Nat) (n s18 m18 : Int) (w : World) (HH LL : Nat) (ex : Bool) (PM : Nat → Prop)
  (t1 : (FloatKind.f64.format.order x 4845873199050653696 == some .lt) = false)
  (h17 : Hid (cnd x n 17 ≠ none)) (k1 : wrap64 (18 - n) = s18) (k2 : wrap64 (n - 18) = m18)
  (C1 : Hid (∀ W, W = w → Cp 145 #[.float .f64 x] W (Ky x W)))
  (C2 : Hid (∀ W A c0 n0 m two, NV W A n0 c0 m → PartIs x m two → Ct 146 #[.slice A n0 c0, .int .i64 two] (.int .i64 n) W))
  (C3 : Hid (∀ W A c0 n0 m two, NV W A n0 c0 m → PartIs x m two → Cp 147 #[.slice A n0 c0, .int .i64 two, .int .i64 s18] W fun e w' => ∃ M : Nat, e = .returned (.agg #[.int .u64 (HH : Nat), .bool ex, .int .u64 (LL : Nat), .int .u64 M]) ∧ PM M ∧ Below W.heap.size W w'))
  (C4 : Hid (∀ W M u k, PM M → UnitAt x n u k → Cp 148 #[.agg #[.int .u64 (HH : Nat), .bool ex, .int .u64 (LL : Nat), .int .u64 M], .int .u64 u] W (Abb x n k W)))
  (C5 : Hid (∀ W u k c, Below w.heap.size w W → UnitAt x n u k → cnd x n k = some c → Cp 144 #[.int .u64 ((c * 10 ^ (18 - k) : Nat) : Int), .int .i64 m18] W (Ii x W))) :
  Cp 116 #[.float .f64 x] w (Ii x w) := by
 go_enter Tryz.func116, Tryz.ntmps116
 go_wp2_with fail
 refine (C1.out _ rfl).mono ?_
 rintro e w1 ⟨m, two, A, n0, c0, rfl, g1, hp, b1⟩
 have G1 := Lh g1
 have HP := Lh hp
 have B1 := Lh b1
 clear g1 hp b1
 go_wp2_with fail
 refine Bm (C2.out _ _ _ _ _ _ G1.out HP.out) fun w2 b2 => ?_
 have G2 := Lh (G1.out.step b2)
 have B2 := Lh (Aa B1.out b2)
 clear b2
 go_wp2_with fail
 refine (C3.out _ _ _ _ _ _ G2.out HP.out).mono ?_
 rintro e w3 ⟨M, rfl, hM, b3⟩
 have HM := Lh hM
 have B3 := Lh (Aa B2.out b3)
 clear b3 hM
 go_wp2_with fail
 have B4 := Lh (Ec (.cells #[.int .u64 (HH : Nat), .bool ex, .int .u64 (LL : Nat), .int .u64 M] 139) B3.out)
 have R4 := Lh (show Rv (w3.alloc (.cells #[.int .u64 (HH : Nat), .bool ex, .int .u64 (LL : Nat), .int .u64 M] 139)) w3.heap.size #[.int .u64 (HH : Nat), .bool ex, .int .u64 (LL : Nat), .int .u64 M] from heap_alloc_last w3 _)
 have S4 := Lh (show w3.heap.size < (w3.alloc (.cells #[.int .u64 (HH : Nat), .bool ex, .int .u64 (LL : Nat), .int .u64 M] 139)).heap.size from by simp)
 have N4 := Lh (show UnitAt x n 100000000000000000 1 from ⟨by omega, by omega, rfl, fun j h1 h2 => by omega⟩)
 obtain ⟨gb, hgb⟩ : ∃ gb, w3.heap.size = gb := ⟨_, rfl⟩
 rw [hgb] at R4 S4 ⊢
 clear hgb
 generalize w3.alloc (.cells #[.int .u64 (HH : Nat), .bool ex, .int .u64 (LL : Nat), .int .u64 M] 139) = w4 at *
 go_loopw [9] (fun u wr => ∃ (v : Int) (k : Nat), u = .int .u64 v ∧ Hid (UnitAt x n v k) ∧ Hid (Rv wr gb #[.int .u64 (HH : Nat), .bool ex, .int .u64 (LL : Nat), .int .u64 M]) ∧ Hid (Below w.heap.size w wr) ∧ Hid (gb < wr.heap.size)) (fun u _ => (intOf u).toNat)
 case atStart => exact ⟨_, 1, rfl, N4, R4, B4, S4⟩
 case round =>
  obtain ⟨v, k, rfl, NK, R5, B5, S5⟩ := hrel
  obtain ⟨v0, v1⟩ := NK.out.bd
  have d0 : wr.cell? ⟨gb, 0, none⟩ = some (.int .u64 (HH : Nat)) := cell_of_row wr gb 0 _ 139 (0, 0) R5.out
  have d1 : wr.cell? ⟨gb, 1, none⟩ = some (.bool ex) := cell_of_row wr gb 1 _ 139 (0, 0) R5.out
  have d2 : wr.cell? ⟨gb, 2, none⟩ = some (.int .u64 (LL : Nat)) := cell_of_row wr gb 2 _ 139 (0, 0) R5.out
  have d3 : wr.cell? ⟨gb, 3, none⟩ = some (.int .u64 M) := cell_of_row wr gb 3 _ 139 (0, 0) R5.out
  go_wp2_with fail
  refine (C4.out _ _ _ _ HM.out NK.out).mono ?_
  rintro e w6 ⟨v', b, rfl, hb1, hb0, b6⟩
  have HB1 := Lh hb1
  have HB0 := Lh hb0
  have B6 := Lh (Aa B5.out b6)
  have R6 := Lh (show Rv w6 gb _ from (b6.block _ S5.out).trans R5.out)
  have S6 := Lh (Nat.lt_of_lt_of_le S5.out b6.size)
  clear hb1 hb0 b6 d0 d1 d2 d3
  cases b
  ·have hn := HB0.out rfl
   obtain ⟨u1, u2⟩ := NK.out.next hn h17.out
   rw [u2] at u1
   have NN := Lh u1
   clear hn u1 u2
   go_wp2
   go_roundw
   case rel => exact ⟨_, k + 1, rfl, NN, R6, B6, S6⟩
   case measure => simp [intOf]; omega
  ·obtain ⟨c, hc, rfl⟩ := HB1.out rfl
   have HC := Lh hc
   clear hc
   go_wp2_with fail
   refine (C5.out _ _ _ _ B6.out NK.out HC.out).mono ?_
   rintro e w7 ⟨L, p, rfl, hq, b7⟩
   have HQ := Lh hq
   have B7 := Lh (Aa B6.out b7)
   clear hq b7
   go_wp2
   go_ret2
   exact ⟨L, p, rfl, HQ.out, B7.out⟩
end
section
theorem Lb {r m : Nat} {two : Int} (h : PartIs r m two) : ∃ p : Int, Bo (Ac r) big p ∧ -345 ≤ p ∧ p ≤ 335 := by
 obtain ⟨q1, q2, q3, q4, q5, q6⟩ := h.pos
 have hx := Acj h
 obtain ⟨u1, u2, u3⟩ := A9 q1
 obtain ⟨k, hk⟩ : ∃ k, bln m = k + 1 := ⟨bln m - 1, by omega⟩
 rw [hk] at u1 u2 q2 q3 q4
 rw [Nat.add_sub_cancel] at u1
 obtain ⟨e, he⟩ : ∃ e, (k : Int) + two = e := ⟨_, rfl⟩
 obtain ⟨l1, l2⟩ := Vt u1 u2 he
 obtain ⟨p1, p2⟩ := Ps (u := m * 2 ^ two.toNat) (v := 2 ^ (-two).toNat) (e := e) (As _) (by omega) (by omega) l1 l2
 obtain ⟨n1, hn1⟩ : ∃ n1, lg2 e + 1 = n1 := ⟨_, rfl⟩
 have b1 : -345 ≤ n1 ∧ n1 ≤ 333 := by unfold lg2 at hn1; omega
 rw [hn1] at p1 p2
 rw [show lg2 e + 2 = n1 + 1 by omega] at p2
 by_cases hh : Ei n1 (m * 2 ^ two.toNat) (2 ^ (-two).toNat)
 ·exact ⟨n1 + 1, F5 (As _) Em hx (p2 hh), by omega, by omega⟩
 ·exact ⟨n1, F5 (As _) Em hx (p1 hh), by omega, by omega⟩
theorem Xk {w : World} {A : Option Addr} {n0 c0 r m : Nat} {two n : Int} (hA : NV w A n0 c0 m) (h : PartIs r m two) (hp : Bo (Ac r) big n) :
  Ct 146 #[.slice A n0 c0, .int .i64 two] (.int .i64 n) w := by
 obtain ⟨q1, q2, q3, q4, q5, q6⟩ := h.pos
 obtain ⟨p, p1, p2, p3, hc⟩ := Sn two hA q1 (by omega) (by omega) (by omega)
 have := H9 (F5 (As _) Em (Acj h) p1) hp
 subst this
 exact hc
theorem Oe {x : Nat} (h0 : 0 < x) (hx : x < 9218868437227405312) : ∃ m two, PartIs x m two := by
 obtain ⟨k, m, h⟩ := Qg _ (He h0).1
 exact ⟨_, _, Qq h0 hx h⟩
theorem Ag7 (N : Nat) : floatOfInt FloatKind.f64 (N : Int) = fl N := rfl
theorem Ek {w w' : World} (h : Cg w) (hb : Below w.heap.size w w') : Cg w' := by
 intro i hi
 have h1 := h i hi
 have hlt : 3 < w.heap.size := by
  rcases Nat.lt_or_ge 3 w.heap.size with h2 | h2
  ·exact h2
  ·rw [World.cell?, Array.getElem?_eq_none h2] at h1
   cases h1
 rw [hb.cell (p := ⟨3, i, none⟩) hlt]
 exact h1
theorem Ls (x : Nat) (w : World) (h0 : 0 < x) (hx : x < 9218868437227405312) (ht : Tab10 w) (hz : Cg w) : Cp 116 #[.float .f64 x] w (Ii x w) := by
 obtain ⟨m0, two0, hp0⟩ := Oe h0 hx
 obtain ⟨n, hn, n1, n2⟩ := Lb hp0
 have h17 := Lh (Qu hn h0 hx)
 obtain ⟨T, hT⟩ : ∃ T, Ac x / big = T := ⟨_, rfl⟩
 have C1 : Hid (∀ W, W = w → Cp 145 #[.float .f64 x] W (Ky x W)) := Lh (fun W (h : W = w) => by
  subst h
  exact Ts x W h0 hx hz)
 have C2 := Lh (fun W A c0 n0 m two (h : NV W A n0 c0 m) (hp : PartIs x m two) => Xk h hp hn)
 have C3 : Hid (∀ W A c0 n0 m two, NV W A n0 c0 m → PartIs x m two → Cp 147 #[.slice A n0 c0, .int .i64 two, .int .i64 (18 - n)] W fun e w' => ∃ M : Nat, e = .returned (.agg #[.int .u64 ((vU x (18 - n) / vV (18 - n) : Nat) : Int), .bool (decide (vU x (18 - n) % vV (18 - n) = 0)), .int .u64 ((Ca (vV (18 - n)) (10 ^ ((18 : Int) - n).toNat) x : Nat) : Int), .int .u64 M]) ∧ (∀ c, c ≤ M ↔ Dc (vV (18 - n)) (10 ^ ((18 : Int) - n).toNat) x c) ∧ Below W.heap.size W w') :=
  Lh (fun W A c0 n0 m two h hp => Xu h hp h0 hn n1 n2)
 obtain ⟨hH, _⟩ := Jr hn
 have C4 : Hid (∀ W M u k, (∀ c, c ≤ M ↔ Dc (vV (18 - n)) (10 ^ ((18 : Int) - n).toNat) x c) → UnitAt x n u k → Cp 148 #[.agg #[.int .u64 ((vU x (18 - n) / vV (18 - n) : Nat) : Int), .bool (decide (vU x (18 - n) % vV (18 - n) = 0)), .int .u64 ((Ca (vV (18 - n)) (10 ^ ((18 : Int) - n).toNat) x : Nat) : Int), .int .u64 M], .int .u64 u] W (Abb x n k W)) :=
  Lh (fun W M u k hM hu => by
   obtain ⟨b1, b2⟩ := hu.bd
   obtain ⟨k1, k2, rfl, _⟩ := hu
   refine (W5 _ _ M (10 ^ (18 - k)) _ W (Aq _) (by omega)).mono ?_
   rintro e w' ⟨rfl, hw⟩
   rw [Ad7 (k := k) (i := 18 - k) (by omega) (by omega) h0 hx hM]
   unfold Afx
   refine ⟨_, _, rfl, ?_, ?_, hw⟩
   ·intro h
    cases hc : cnd x n k with
    | none => rw [hc] at h; cases h
    | some c => exact ⟨c, rfl, rfl⟩
   ·intro h
    cases hc : cnd x n k with
    | none => rfl
    | some c => rw [hc] at h; cases h)
 have C5 : Hid (∀ W u k c, Below w.heap.size w W → UnitAt x n u k → cnd x n k = some c → Cp 144 #[.int .u64 ((c * 10 ^ (18 - k) : Nat) : Int), .int .i64 (n - 18)] W (Ii x W)) :=
  Lh (fun W u k c hW hu hc => by
   obtain ⟨k1, k2, _, k4⟩ := hu
   have hl := Ke hn k1 k4 hc
   have hlt : c * 10 ^ (18 - k) < 10 ^ 19 := by
    have h10 : c ≤ 10 ^ k := by
     rcases hl with ⟨_, _, h⟩ | ⟨h1, h2⟩
     ·omega
     ·rw [h1, h2]; omega
    have h1 : c * 10 ^ (18 - k) ≤ 10 ^ k * 10 ^ (18 - k) := Nat.mul_le_mul_right _ h10
    rw [← Nat.pow_add, show k + (18 - k) = 18 by omega] at h1
    omega
   refine (Ht (c * 10 ^ (18 - k)) (n - 18) W (by omega) (by omega) (by omega) (ht.on hW)).mono ?_
   rintro e w' ⟨rfl, hw⟩
   have hc0 : 0 < c := by
    rcases hl with ⟨h, _⟩ | ⟨_, h⟩ <;> omega
   rw [Hp hc0, Nz, List.length_append, List.length_replicate]
   refine ⟨_, _, rfl, ⟨n, k, c, hn, k1, k2, k4, hc, rfl, ?_⟩, hw⟩
   omega)
 rcases Nat.lt_or_ge x 4845873199050653696 with hlt | hge
 ·have hTl := Aae hlt
  rw [hT] at hTl
  have t1 : (FloatKind.f64.format.order x 4845873199050653696 == some .lt) = true := by rw [Lj (by omega) (by omega)]; exact decide_eq_true hlt
  have hcv := fun W => Acz hx hT (by omega) W
  have heq := Rg (x := x) hx hTl
  rw [← Ag7] at heq
  by_cases hw : Ac x = T * big
  ·rw [decide_eq_true hw] at heq
   have hT0 : 0 < T := by
    rcases Nat.eq_zero_or_pos T with h | h
    ·rw [h, Nat.zero_mul] at hw
     have := F3.2 h0
     omega
    ·exact h
   refine (Nt x T w _ _ t1 hcv heq (Lh fun W h => by
    subst h
    exact Ht T 0 W (by omega) (by omega) (by omega) ht)).mono ?_
   rintro e w' ⟨rfl, hb⟩
   refine ⟨_, _, rfl, ?_, hb⟩
   have := Zs hT0 hTl hx hw
   rw [Int.add_zero]
   exact this
  ·rw [decide_eq_false hw] at heq
   exact Pz x T n _ _ w _ _ _ _ t1 hcv heq h17 (by unfold wrap64; omega) (by unfold wrap64; omega) C1 C2 C3 C4 C5
 ·have t1 : (FloatKind.f64.format.order x 4845873199050653696 == some .lt) = false := by rw [Lj (by omega) (by omega)]; exact decide_eq_false (by omega)
  exact Se x n _ _ w _ _ _ _ t1 h17 (by unfold wrap64; omega) (by unfold wrap64; omega) C1 C2 C3 C4 C5
end
section
theorem Mf (x : Nat) (f : FuncId) (F : ByteArray) (w : World) (t0 : (FloatKind.f64.format.order x 0 == some .lt) = false)
  (CN : Hid (∀ W, Cq 41 #[.float .f64 x] (.bool true) W))
  (CW : Hid (∀ W, Ct 52 #[.string ⟨#[78, 97, 78]⟩] (.string F) W)) :
  Ct 83 #[.float .f64 x, .func (Fn.func f) #[] #[]] (.string F) w := by
 go_enter Tryz.func83, Tryz.ntmps83
 go_wp2_with fail
 refine Sm (CN.out _) ?_
 go_wp2_with fail
 refine Bm (CW.out _) fun w2 b2 => ?_
 have B2 := Lh (Aa (Below.refl _ _) b2)
 clear b2
 go_wp2
 go_ret
 exact ⟨rfl, B2.out⟩
theorem L9 (x : Nat) (f : FuncId) (F : ByteArray) (w : World) (t0 : (FloatKind.f64.format.order x 0 == some .lt) = false)
  (CN : Hid (∀ W, Cq 41 #[.float .f64 x] (.bool false) W))
  (CI : Hid (∀ W, Cq 114 #[.float .f64 x, .int .i64 0] (.bool true) W))
  (CW : Hid (∀ W, Ct 52 #[.string ⟨#[73, 110, 102, 105, 110, 105, 116, 121]⟩] (.string F) W)) :
  Ct 83 #[.float .f64 x, .func (Fn.func f) #[] #[]] (.string F) w := by
 go_enter Tryz.func83, Tryz.ntmps83
 go_wp2_with fail
 refine Sm (CN.out _) ?_
 go_wp2_with fail
 refine Sm (CI.out _) ?_
 go_wp2_with fail
 refine Bm (CW.out _) fun w2 b2 => ?_
 have B2 := Lh (Aa (Below.refl _ _) b2)
 clear b2
 go_wp2
 go_ret
 exact ⟨rfl, B2.out⟩
theorem Lx (x : Nat) (f : FuncId) (R S : ByteArray) (r : Nat) (F : ByteArray) (w : World) (t0 : (FloatKind.f64.format.order x 0 == some .lt) = false)
  (CN : Hid (∀ W, Cq 41 #[.float .f64 x] (.bool false) W))
  (CI : Hid (∀ W, Cq 114 #[.float .f64 x, .int .i64 0] (.bool false) W))
  (CA : Hid (∀ W, Cq 115 #[.float .f64 x] (.float .f64 r) W))
  (he : ∀ args (W : World), (callFunc f args).run Tryz.prog W = .ok (.enter f args) W)
  (CT : Hid (∀ W, W = w → Ct f #[.float .f64 r] (.string R) W))
  (hR : Hid (R.size ≤ 1000000)) (hS : ⟨#[]⟩ ++ R = S)
  (CW : Hid (∀ W, Ct 52 #[.string S] (.string F) W)) :
  Ct 83 #[.float .f64 x, .func (Fn.func f) #[] #[]] (.string F) w := by
 have g1 : ¬ 9223372036854775807 < R.size := by have := hR.out; omega
 go_enter Tryz.func83, Tryz.ntmps83
 go_wp2_with fail
 refine Sm (CN.out _) ?_
 go_wp2_with fail
 refine Sm (CI.out _) ?_
 go_wp2_with fail
 refine Sm (CA.out _) ?_
 go_wp2_with fail
 refine Bm (CT.out _ rfl) fun w1 b1 => ?_
 have B1 := Lh b1
 clear b1
 go_wp2_with fail
 refine Bm (CW.out _) fun w2 b2 => ?_
 have B2 := Lh (Aa B1.out b2)
 clear b2
 go_wp2
 go_ret
 exact ⟨rfl, B2.out⟩
theorem Mh (x : Nat) (f : FuncId) (F : ByteArray) (w : World) (t0 : (FloatKind.f64.format.order x 0 == some .lt) = true)
  (CN : Hid (∀ W, Cq 41 #[.float .f64 x] (.bool false) W))
  (CI : Hid (∀ W, Cq 114 #[.float .f64 x, .int .i64 0] (.bool true) W))
  (CW : Hid (∀ W, Ct 52 #[.string ⟨#[45, 73, 110, 102, 105, 110, 105, 116, 121]⟩] (.string F) W)) :
  Ct 83 #[.float .f64 x, .func (Fn.func f) #[] #[]] (.string F) w := by
 go_enter Tryz.func83, Tryz.ntmps83
 go_wp2_with fail
 refine Sm (CN.out _) ?_
 go_wp2_with fail
 refine Sm (CI.out _) ?_
 go_wp2_with fail
 refine Bm (CW.out _) fun w2 b2 => ?_
 have B2 := Lh (Aa (Below.refl _ _) b2)
 clear b2
 go_wp2
 go_ret
 exact ⟨rfl, B2.out⟩
theorem Mc (x : Nat) (f : FuncId) (R S : ByteArray) (r : Nat) (F : ByteArray) (w : World) (t0 : (FloatKind.f64.format.order x 0 == some .lt) = true)
  (CN : Hid (∀ W, Cq 41 #[.float .f64 x] (.bool false) W))
  (CI : Hid (∀ W, Cq 114 #[.float .f64 x, .int .i64 0] (.bool false) W))
  (CA : Hid (∀ W, Cq 115 #[.float .f64 x] (.float .f64 r) W))
  (he : ∀ args (W : World), (callFunc f args).run Tryz.prog W = .ok (.enter f args) W)
  (CT : Hid (∀ W, W = w → Ct f #[.float .f64 r] (.string R) W))
  (hR : Hid (R.size ≤ 1000000)) (hS : ⟨#[45]⟩ ++ R = S)
  (CW : Hid (∀ W, Ct 52 #[.string S] (.string F) W)) :
  Ct 83 #[.float .f64 x, .func (Fn.func f) #[] #[]] (.string F) w := by
 have g1 : ¬ 9223372036854775807 < 1 + R.size := by have := hR.out; omega
 go_enter Tryz.func83, Tryz.ntmps83
 go_wp2_with fail
 refine Sm (CN.out _) ?_
 go_wp2_with fail
 refine Sm (CI.out _) ?_
 go_wp2_with fail
 refine Sm (CA.out _) ?_
 go_wp2_with fail
 refine Bm (CT.out _ rfl) fun w1 b1 => ?_
 have B1 := Lh b1
 clear b1
 go_wp2_with fail
 refine Bm (CW.out _) fun w2 b2 => ?_
 have B2 := Lh (Aa B1.out b2)
 clear b2
 go_wp2
 go_ret
 exact ⟨rfl, B2.out⟩
end
section
theorem Ra (x : Nat) (w : World) (t0 : (FloatKind.f64.format.order x 0 == some .eq) = true) : Cq 84 #[.float .f64 x] (.string ⟨#[48]⟩) w := by
 go_enter Tryz.func84, Tryz.ntmps84
 go_wp2
 go_ret
 exact ⟨rfl, rfl⟩
theorem Ut (x : Nat) (N : Int) (S F : ByteArray) (w : World) (t0 : (FloatKind.f64.format.order x 0 == some .eq) = false) (b1 : -1000 ≤ N) (b2 : N ≤ 1000) (h1 : N ≤ -6)
  (CS : Hid (∀ W, Below w.heap.size w W → Ct 117 #[.string S, .int .i64 (N - 1)] (.string F) W))
  (C : Hid (∀ W, W = w → Ct 116 #[.float .f64 x] (.tuple #[.string S, .int .i64 N]) W)) :
  Ct 84 #[.float .f64 x] (.string F) w := by
 go_enter Tryz.func84, Tryz.ntmps84
 go_wp2_with fail
 refine (C.out _ rfl).mono ?_
 rintro e w1 ⟨rfl, b1'⟩
 have B1 := Lh b1'
 clear b1'
 go_wp2_with fail
 refine (CS.out _ B1.out).mono ?_
 rintro e w2 ⟨rfl, b2'⟩
 have B2 := Lh (Aa B1.out b2')
 clear b2'
 go_wp2
 go_ret
 exact ⟨rfl, B2.out⟩
theorem Rb (x : Nat) (N : Int) (S F : ByteArray) (w : World) (t0 : (FloatKind.f64.format.order x 0 == some .eq) = false) (b1 : -1000 ≤ N) (b2 : N ≤ 1000) (h1 : 21 < N)
  (CS : Hid (∀ W, Below w.heap.size w W → Ct 117 #[.string S, .int .i64 (N - 1)] (.string F) W))
  (C : Hid (∀ W, W = w → Ct 116 #[.float .f64 x] (.tuple #[.string S, .int .i64 N]) W)) :
  Ct 84 #[.float .f64 x] (.string F) w := by
 have h2 : ¬ N ≤ -6 := by omega
 go_enter Tryz.func84, Tryz.ntmps84
 go_wp2_with fail
 refine (C.out _ rfl).mono ?_
 rintro e w1 ⟨rfl, b1'⟩
 have B1 := Lh b1'
 clear b1'
 go_wp2_with fail
 refine (CS.out _ B1.out).mono ?_
 rintro e w2 ⟨rfl, b2'⟩
 have B2 := Lh (Aa B1.out b2')
 clear b2'
 go_wp2
 go_ret
 exact ⟨rfl, B2.out⟩
theorem Nj (x : Nat) (N : Int) (n z : Nat) (S F : ByteArray) (w : World) (t0 : (FloatKind.f64.format.order x 0 == some .eq) = false) (b1 : -1000 ≤ N) (b2 : N ≤ 1000) (h1 : -6 < N) (h2 : N ≤ 21) (hn : S.size = n) (h3 : (n : Int) ≤ N) (hz : N - (n : Int) = (z : Int)) (Z : ByteArray) (hZ : Hid (Z.size ≤ 1000)) (hF : S ++ Z = F)
  (CR : Hid (∀ W, Ct 118 #[.string ⟨#[48]⟩, .int .i64 z] (.string Z) W))
  (C : Hid (∀ W, W = w → Ct 116 #[.float .f64 x] (.tuple #[.string S, .int .i64 N]) W)) :
  Ct 84 #[.float .f64 x] (.string F) w := by
 have h4 : ¬ N ≤ -6 := by omega
 have h5 : ¬ 21 < N := by omega
 have h6 : 0 ≤ (n : Int) := by omega
 have g1 : ¬ 9223372036854775807 < n + Z.size := by have := hZ.out; omega
 have hzz := Lh hz
 go_enter Tryz.func84, Tryz.ntmps84
 go_wp2_with fail
 refine (C.out _ rfl).mono ?_
 rintro e w1 ⟨rfl, b1'⟩
 have B1 := Lh b1'
 clear b1'
 go_wp2_with fail
 refine (CR.out _).mono ?_
 rintro e w2 ⟨rfl, b2'⟩
 have B2 := Lh (Aa B1.out b2')
 clear b2'
 go_wp2
 go_ret
 exact ⟨rfl, B2.out⟩
theorem Od (x : Nat) (N : Int) (n z : Nat) (S F : ByteArray) (w : World) (t0 : (FloatKind.f64.format.order x 0 == some .eq) = false) (b1 : -1000 ≤ N) (b2 : N ≤ 1000) (h1 : -6 < N) (h2 : N ≤ 21) (hn : S.size = n) (h3 : N < (n : Int)) (hn2 : (n : Int) ≤ 1000) (hz : (n : Int) - N = (z : Int))
  (CP : Hid (∀ W, Ct 119 #[.string S, .int .i64 z] (.string F) W))
  (C : Hid (∀ W, W = w → Ct 116 #[.float .f64 x] (.tuple #[.string S, .int .i64 N]) W)) :
  Ct 84 #[.float .f64 x] (.string F) w := by
 have h4 : ¬ N ≤ -6 := by omega
 have h5 : ¬ 21 < N := by omega
 have h7 : ¬ (n : Int) ≤ N := by omega
 go_enter Tryz.func84, Tryz.ntmps84
 go_wp2_with fail
 refine (C.out _ rfl).mono ?_
 rintro e w1 ⟨rfl, b1'⟩
 have B1 := Lh b1'
 clear b1'
 go_wp2_with fail
 refine (CP.out _).mono ?_
 rintro e w2 ⟨rfl, b2'⟩
 have B2 := Lh (Aa B1.out b2')
 clear b2'
 go_wp2
 go_ret
 exact ⟨rfl, B2.out⟩
end
section
theorem SQ.form {r : Nat} {D : List Nat} {N : Int} (h : SQ r D N) : ∃ d, d % 10 ≠ 0 ∧ D = dL d ∧ D.length ≤ 17 ∧ Bu d (N - D.length) = r := by
 obtain ⟨n, k, c, h1, h2, h3, h4, h5, h6, h7⟩ := h
 have hd := (Sc h5).2
 rcases Ke h1 h2 h4 h5 with ⟨g1, g2, g3⟩ | ⟨g1, g2⟩
 ·obtain ⟨j, rfl⟩ : ∃ j, k = j + 1 := ⟨k - 1, by omega⟩
  have hl := Ag0 (n := c) (k := j) g2 g3
  have e := Ot g1
  rw [e] at h6
  refine ⟨c, g1, h6, by rw [h6, hl]; exact h3, ?_⟩
  rw [h6, h7, show ((dL c).length : Int) + n - ((j + 1 : Nat) : Int) - ((dL c).length : Int) = n - ((j + 1 : Nat) : Int) by omega]
  exact hd
 ·subst g1 g2
  have e : dL 10 = [49, 48] := by rw [Hc (by omega), Df (by omega)]; rfl
  have e1 : dL 1 = [49] := Df (by omega)
  have h8 := Dp 1 1 (n - 1)
  rw [show 1 * 10 ^ 1 = 10 from rfl, show n - 1 + ((1 : Nat) : Int) = n by omega] at h8
  rw [e] at h6 h7
  have h9 : D = [49] := h6
  refine ⟨1, by omega, by rw [h9, e1], by rw [h9]; simp, ?_⟩
  rw [h9, h7, show (([49, 48] : List Nat).length : Int) + n - ((1 : Nat) : Int) - (([49] : List Nat).length : Int) = n by simp; omega]
  rw [← h8]
  exact hd
theorem SQ.bd {r : Nat} {D : List Nat} {N : Int} (h : SQ r D N) (h0 : 0 < r) (hr : r < 9218868437227405312) : -400 ≤ N ∧ N ≤ 400 ∧ 1 ≤ D.length ∧ D.length ≤ 17 ∧ (∀ c ∈ D, c < 256) := by
 obtain ⟨d, _, hD, hl, _⟩ := h.form
 obtain ⟨n, k, c, h1, h2, h3, h4, h5, h6, h7⟩ := h
 obtain ⟨m, two, hp⟩ := Oe h0 hr
 obtain ⟨p, p1, p2, p3⟩ := Lb hp
 have := H9 h1 p1
 subst this
 have hc : (dL c).length ≤ 18 ∧ 1 ≤ (dL c).length := by
  refine ⟨?_, U6 c⟩
  have hlt : c < 10 ^ 18 := by
   rcases Ke h1 h2 h4 h5 with ⟨_, _, g⟩ | ⟨_, g⟩
   ·have := Nat.pow_le_pow_right (n := 10) (by omega) (show k ≤ 18 by omega)
    omega
   ·omega
  exact Zo hlt (by omega)
 refine ⟨by omega, by omega, ?_, hl, ?_⟩
 ·rw [hD]; exact U6 d
 ·intro x hx
  rw [hD] at hx
  have := Cc.1 (Ku d x hx)
  omega
theorem Ahg {r : Nat} (h0 : 0 < r) (hr : r < 9218868437227405312) : ∃ D N, SQ r D N := by
 obtain ⟨m, two, hp⟩ := Oe h0 hr
 obtain ⟨n, hn, _, _⟩ := Lb hp
 have h17 := Qu hn h0 hr
 have key : ∀ i, i ≤ 16 → (∀ j, 1 ≤ j → j < 17 - i → cnd r n j = none) → ∃ k, 1 ≤ k ∧ k ≤ 17 ∧ (∀ j, 1 ≤ j → j < k → cnd r n j = none) ∧ cnd r n k ≠ none := by
  intro i
  induction i with
  | zero =>
   intro _ h
   exact ⟨17, by omega, by omega, h, h17⟩
  | succ i ih =>
   intro hi h
   by_cases hc : cnd r n (17 - (i + 1)) = none
   ·refine ih (by omega) ?_
    intro j hj1 hj2
    rcases Nat.lt_or_ge j (17 - (i + 1)) with h2 | h2
    ·exact h j hj1 h2
    ·rw [show j = 17 - (i + 1) by omega]
     exact hc
   ·exact ⟨17 - (i + 1), by omega, by omega, h, hc⟩
 obtain ⟨k, k1, k2, k3, k4⟩ := key 16 (by omega) (fun j h1 h2 => by omega)
 cases hc : cnd r n k with
 | none => exact absurd hc k4
 | some c => exact ⟨_, _, n, k, c, hn, k1, k2, k3, hc, rfl, rfl⟩
def plL (D : List Nat) (N : Int) : List Nat :=
 if N ≤ -6 ∨ 21 < N then scL D (N - 1) else if (D.length : Int) ≤ N then D ++ List.replicate (N - D.length).toNat 48 else ptL D ((D.length : Int) - N).toNat
def PlQ (r : Nat) (L : List Nat) : Prop := (r = 0 ∧ L = [48]) ∨ (0 < r ∧ ∃ D N, SQ r D N ∧ L = plL D N)
theorem Ag4 {r : Nat} (hr : r < 9218868437227405312) : ∃ L, PlQ r L := by
 rcases Nat.eq_zero_or_pos r with h | h
 ·exact ⟨_, .inl ⟨h, rfl⟩⟩
 ·obtain ⟨D, N, hq⟩ := Ahg h hr
  exact ⟨_, .inr ⟨h, D, N, hq, rfl⟩⟩
theorem Agq {l : List Nat} {e : Int} (hl : ∀ c ∈ l, c < 256) : ∀ c ∈ scL l e, c < 256 := by
 intro c hc
 unfold scL at hc
 rw [List.mem_append, List.mem_append] at hc
 rcases hc with (hc | hc) | hc
 ·exact Af5 hl c hc
 ·unfold sgL at hc
  split at hc <;> simp at hc <;> omega
 ·have := Cc.1 (Ku _ c hc)
  omega
theorem Agp {l : List Nat} {k : Nat} (hl : ∀ c ∈ l, c < 256) : ∀ c ∈ ptL l k, c < 256 := by
 intro c hc
 unfold ptL at hc
 split at hc
 ·exact hl c hc
 ·rw [List.mem_append, List.mem_cons] at hc
  rcases hc with hc | rfl | hc
  ·exact Ns hl c (List.mem_of_mem_take hc)
  ·omega
  ·exact Ns hl c (List.mem_of_mem_drop hc)
theorem Adx {l : List Nat} {e : Int} (he : e.natAbs < 10 ^ 6) : (scL l e).length ≤ l.length + 10 := by
 unfold scL
 rw [List.length_append, List.length_append]
 have h1 := Oo l
 have h2 : (sgL e).length = 2 := by unfold sgL; split <;> rfl
 have h3 := Zo he (by omega)
 omega
theorem PlQ.bd {r : Nat} {L : List Nat} (hr : r < 9218868437227405312) (h : PlQ r L) : (∀ c ∈ L, c < 256) ∧ L.length ≤ 1000 := by
 rcases h with ⟨_, rfl⟩ | ⟨h0, D, N, hq, rfl⟩
 ·exact ⟨by simp, by simp⟩
 ·obtain ⟨b1, b2, b3, b4, b5⟩ := hq.bd h0 hr
  unfold plL
  split
  ·exact ⟨Agq b5, Nat.le_trans (Adx (by omega)) (by omega)⟩
  ·split
   ·refine ⟨?_, by rw [List.length_append, List.length_replicate]; omega⟩
    intro c hc
    rw [List.mem_append, List.mem_replicate] at hc
    rcases hc with hc | ⟨_, rfl⟩
    ·exact b5 c hc
    ·omega
   ·refine ⟨Agp b5, ?_⟩
    by_cases hz : ((D.length : Int) - N).toNat = 0
    ·unfold ptL; rw [if_pos hz]; omega
    ·rw [Afd _ _ hz]; omega
theorem No {x : Nat} {D : List Nat} {N : Int} {w : World} (h0 : 0 < x) (hx : x < 9218868437227405312) (ht : Tab10 w) (hz : Cg w) (h : SQ x D N) :
  Ct 116 #[.float .f64 x] (.tuple #[.string (Ab D), .int .i64 N]) w := by
 refine (Ls x w h0 hx ht hz).mono ?_
 rintro e w' ⟨L, p, rfl, hq, hb⟩
 obtain ⟨rfl, rfl⟩ := h.one hq
 exact ⟨rfl, hb⟩
theorem Tw {r : Nat} {L : List Nat} {w : World} (hr : r < 9218868437227405312) (ht : Tab10 w) (hz : Cg w) (h : PlQ r L) :
  Ct 84 #[.float .f64 r] (.string (Ab L)) w := by
 rcases h with ⟨rfl, rfl⟩ | ⟨h0, D, N, hq, rfl⟩
 ·refine Sm (Ra 0 w (by rw [Hb (by omega) (by omega)]; rfl)) ?_
  exact ⟨rfl, Below.refl _ _⟩
 ·obtain ⟨b1, b2, b3, b4, b5⟩ := hq.bd h0 hr
  have t0 : (FloatKind.f64.format.order r 0 == some .eq) = false := by rw [Hb (by omega) (by omega)]; exact decide_eq_false (by omega)
  have C : Hid (∀ W, W = w → Ct 116 #[.float .f64 r] (.tuple #[.string (Ab D), .int .i64 N]) W) := Lh (fun W hW => by
   subst hW
   exact No h0 hr ht hz hq)
  have CS := Lh (fun W (hW : Below w.heap.size w W) => Jg D (N - 1) W b5 b3 (by omega) (by omega) (by omega) (ht.on hW))
  unfold plL
  by_cases h1 : N ≤ -6
  ·rw [if_pos (.inl h1)]
   exact Ut r N _ _ w t0 (by omega) (by omega) h1 CS C
  ·by_cases h2 : 21 < N
   ·rw [if_pos (.inr h2)]
    exact Rb r N _ _ w t0 (by omega) (by omega) h2 CS C
   ·rw [if_neg (by omega)]
    by_cases h3 : (D.length : Int) ≤ N
    ·rw [if_pos h3]
     exact Nj r N D.length (N - D.length).toNat _ _ w t0 (by omega) (by omega) (by omega) (by omega) (Ag D) h3 (by omega) (Ab (List.replicate (N - D.length).toNat 48)) (Lh (by rw [Ag, List.length_replicate]; omega)) (Az _ _) (Lh fun W => Jb _ W (by omega)) C
    ·rw [if_neg h3]
     exact Od r N D.length ((D.length : Int) - N).toNat _ _ w t0 (by omega) (by omega) (by omega) (by omega) (Ag D) (by omega) (by omega) (by omega) (Lh fun W => O1 D _ W b5 (by omega) (by omega)) C
def wdS (L : List Nat) : ByteArray := ⟨(bL L).toArray⟩
theorem En (L : List Nat) (w : World) (hL : ∀ c ∈ L, c < 256) (hl : L.length ≤ 100000) : Ct 52 #[.string (Ab L)] (.string (wdS L)) w := by
 have h := Acs (Ab L) w (by rw [Ag]; omega)
 rw [show wdL (Ab L) = bl (Ab L) from Gc _, Aj hL] at h
 exact h
theorem W9 (L : List Nat) (w : World) (hL : ∀ c ∈ L, c < 256) (hl : L.length ≤ 100000) : Ct 43 #[.string (Ab L)] (.string (wdS L)) w := by
 have h := X5 (Ab L) w (by rw [Ag]; omega)
 rw [show wdL (Ab L) = bl (Ab L) from Gc _, Aj hL] at h
 exact h
def ngB (x : Nat) : Bool := Bj x && decide (0 < Aw x)
theorem Ae0 (x : Nat) : (FloatKind.f64.format.order x 0 == some .lt) = (!Bh x && ngB x) := by
 unfold ngB Bh
 rcases Nat.lt_or_ge 9218868437227405312 (Aw x) with h | h
 ·rw [show FloatKind.f64.format.order x 0 = Ieee.double.order x 0 from rfl, Do (.inl h), decide_eq_true h]
  rfl
 ·obtain ⟨a1, a2⟩ := Fc (x := 0) (by omega)
  rw [show FloatKind.f64.format.order x 0 = Ieee.double.order x 0 from rfl, Cz h (by omega), a1, decide_eq_false (by omega), Bool.eq_iff_iff, beq_iff_eq, Option.some.injEq, Int.compare_eq_lt]
  unfold De
  cases Bj x
  ·simp
  ·simp
def sgx (x : Nat) : List Nat := if ngB x = true then [45] else []
def SgQ (T : Nat → List Nat → Prop) (x : Nat) (L : List Nat) : Prop :=
 (Bh x = true ∧ L = [78, 97, 78]) ∨ (Bh x = false ∧ Ee x = true ∧ L = sgx x ++ infL) ∨ (Bh x = false ∧ Ee x = false ∧ ∃ l, T (Aw x) l ∧ L = sgx x ++ l)
theorem J5 {x : Nat} (h1 : Bh x = false) (h2 : Ee x = false) : Aw x < 9218868437227405312 := by
 have := of_decide_eq_false h1
 have := of_decide_eq_false h2
 omega
theorem Qv {T : Nat → List Nat → Prop} {x : Nat} {L : List Nat} {w : World} (f : FuncId) (hx : x < 18446744073709551616)
  (he : ∀ args (W : World), (callFunc f args).run Tryz.prog W = .ok (.enter f args) W)
  (hT : ∀ r l, r < 9218868437227405312 → T r l → (∀ c ∈ l, c < 256) ∧ l.length ≤ 99000 ∧ Ct f #[.float .f64 r] (.string (Ab l)) w)
  (h : SgQ T x L) : Ct 83 #[.float .f64 x, .func (Fn.func f) #[] #[]] (.string (wdS L)) w := by
 have t0 := Ae0 x
 have CN := fun W => Bn x W
 have CI := fun W => Dy x W hx
 rcases h with ⟨h1, rfl⟩ | ⟨h1, h2, rfl⟩ | ⟨h1, h2, l, h3, rfl⟩
 ·rw [h1] at t0 CN
  exact Mf x f _ w t0 (Lh CN) (Lh fun W => En [78, 97, 78] W (by simp) (by simp))
 ·rw [h1] at t0 CN
  rw [h2] at CI
  unfold sgx
  cases hn : ngB x
  ·rw [hn] at t0
   exact L9 x f _ w t0 (Lh CN) (Lh CI) (Lh fun W => En _ W (by decide) (by decide))
  ·rw [hn] at t0
   exact Mh x f _ w t0 (Lh CN) (Lh CI) (Lh fun W => En _ W (by decide) (by decide))
 ·rw [h1] at t0 CN
  rw [h2] at CI
  obtain ⟨l1, l2, hc⟩ := hT _ l (J5 h1 h2) h3
  have CA := fun W => Jl x W hx
  have CT : Hid (∀ W, W = w → Ct f #[.float .f64 (Aw x)] (.string (Ab l)) W) := Lh (fun W hW => by
   subst hW
   exact hc)
  unfold sgx
  cases hn : ngB x
  ·rw [hn] at t0
   refine Lx x f (Ab l) (Ab l) (Aw x) _ w t0 (Lh CN) (Lh CI) (Lh CA) he CT (Lh (by rw [Ag]; omega)) ?_ (Lh fun W => En _ W l1 (by omega))
   rw [show (⟨#[]⟩ : ByteArray) = Ab [] from rfl, Az]
   rfl
  ·rw [hn] at t0
   refine Mc x f (Ab l) (Ab ([45] ++ l)) (Aw x) _ w t0 (Lh CN) (Lh CI) (Lh CA) he CT (Lh (by rw [Ag]; omega)) ?_ (Lh fun W => En _ W ?_ ?_)
   ·rw [show (⟨#[45]⟩ : ByteArray) = Ab [45] from rfl, Az]
   ·intro c hc
    rw [List.mem_append, List.mem_singleton] at hc
    rcases hc with rfl | hc
    ·omega
    ·exact l1 c hc
   ·rw [List.length_append, List.length_singleton]
    omega
def TxQ (x : Nat) (L : List Nat) : Prop := SgQ PlQ x L
theorem Le (x : Nat) : ∃ L, TxQ x L := by
 unfold TxQ SgQ
 cases h1 : Bh x
 ·cases h2 : Ee x
  ·obtain ⟨l, hl⟩ := Ag4 (J5 h1 h2)
   exact ⟨_, .inr (.inr ⟨rfl, rfl, l, hl, rfl⟩)⟩
  ·exact ⟨_, .inr (.inl ⟨rfl, rfl, rfl⟩)⟩
 ·exact ⟨_, .inl ⟨rfl, rfl⟩⟩
theorem Y8 {x : Nat} {L : List Nat} {w : World} (hx : x < 18446744073709551616) (ht : Tab10 w) (hz : Cg w) (h : TxQ x L) :
  Ct 53 #[.float .f64 x] (.string (wdS L)) w := by
 have C := Lh (fun W (hW : W = w) => Qv (T := PlQ) (w := W) 84 hx (fun args W' => by go_simp) (fun r l hr hl => by
  subst hW
  obtain ⟨b1, b2⟩ := hl.bd hr
  exact ⟨b1, by omega, Tw hr ht hz hl⟩) h)
 clear h ht hz
 go_enter Tryz.func53, Tryz.ntmps53
 go_wp2_with fail
 refine Bm (C.out _ rfl) fun w1 b1 => ?_
 go_wp2
 go_ret
 exact ⟨rfl, b1⟩
end
section
def An (v : Val) : Bool := decide (0 ≤ v.vk) && decide (v.vk ≤ 4)
def Bs (v : Val) : Nat :=
 if v.vk = 0 then 9221120237041090560 else if v.vk = 2 then (if v.vb = true then 4607182418800017408 else 0) else if v.vk = 3 then cn v.vn else if v.vk = 4 then Wv (nrw 0 (us (E4 v.vs))) else 0
noncomputable def txt (x : Nat) : ByteArray := wdS (Classical.choose (Le x))
def wUnd : ByteArray := wdS [117, 110, 100, 101, 102, 105, 110, 101, 100]
def wNul : ByteArray := wdS [110, 117, 108, 108]
def wTru : ByteArray := wdS [116, 114, 117, 101]
def wFal : ByteArray := wdS [102, 97, 108, 115, 101]
noncomputable def Dg (v : Val) : ByteArray :=
 if v.vk = 0 then wUnd else if v.vk = 1 then wNul else if v.vk = 2 then (if v.vb = true then wTru else wFal) else if v.vk = 3 then txt v.vn else if v.vk = 4 then v.vs else ⟨#[]⟩
def Cy (v : Val) : Bool := v.vk == 0 || v.vk == 1
def E8 (x y : Val) : Bool × Int :=
 if x.vk = y.vk then (By x y, 0) else if (Cy x || Cy y) = true then (Cy x && Cy y, 0) else if (An x && An y) = true then (oeq (Bs x) (Bs y), 0) else (false, 1)
def Gr (x y : Val) : Int × Int :=
 if (An x && An y) = true then (if x.vk = 4 ∧ y.vk = 4 then (if Fo (us x.vs) (us y.vs) < 0 then 1 else 0) else I7 (Bs x) (Bs y), 0) else (0, 1)
theorem Sx (x y : Val) : E8 x y = E8 y x := by
 unfold E8
 rw [I6 x, Bool.or_comm (Cy x), Bool.and_comm (Cy x), Bool.and_comm (An x), J3 (Bs x)]
 by_cases h : x.vk = y.vk
 ·rw [if_pos h, if_pos (show y.vk = x.vk from h.symm)]
 ·rw [if_neg h, if_neg (show ¬ y.vk = x.vk from fun k => h k.symm)]
theorem Nu {x y : Val} (h : By x y = true) : (E8 x y).1 = true := by
 have hk : x.vk = y.vk := by
  unfold By at h
  simp only [Bool.and_eq_true, beq_iff_eq] at h
  exact h.1.1
 unfold E8
 rw [if_pos hk]
 exact h
theorem M7 : ∀ l m : List Nat, Fo l m < 0 → ¬ Fo m l < 0
 | [], [], h => by simp [Fo] at h
 | [], _ :: _, _ => by simp [Fo]
 | _ :: _, [], h => by simp [Fo] at h
 | a :: l, b :: m, h => by
  simp only [Fo] at h ⊢
  by_cases h1 : a < b
  ·rw [if_neg (by omega), if_pos h1]
   omega
  ·rw [if_neg h1] at h
   by_cases h2 : b < a
   ·rw [if_pos h2] at h; omega
   ·rw [if_neg h2] at h
    rw [if_neg h2, if_neg h1]
    exact M7 l m h
theorem Sr (x y : Val) : ¬ ((Gr x y).1 = 1 ∧ (Gr y x).1 = 1) := by
 rintro ⟨h, g⟩
 unfold Gr at h g
 rw [Bool.and_comm] at g
 by_cases ho : (An x && An y) = true
 ·rw [if_pos ho] at h g
  dsimp only at h g
  by_cases hk : x.vk = 4 ∧ y.vk = 4
  ·rw [if_pos hk] at h
   rw [if_pos (show y.vk = 4 ∧ x.vk = 4 from hk.symm)] at g
   by_cases hc : Fo (us x.vs) (us y.vs) < 0
   ·rw [if_neg (M7 _ _ hc)] at g
    omega
   ·rw [if_neg hc] at h
    omega
  ·rw [if_neg hk] at h
   rw [if_neg (show ¬ (y.vk = 4 ∧ x.vk = 4) from fun k => hk k.symm)] at g
   unfold I7 at h g
   rw [Bool.or_comm] at g
   by_cases hn : (Bh (Bs x) || Bh (Bs y)) = true
   ·rw [if_pos hn] at h
    omega
   ·rw [if_neg hn] at h g
    by_cases hl : olt (Bs x) (Bs y) = true
    ·rw [Xy hl] at g
     simp at g
    ·rw [if_neg hl] at h
     omega
 ·rw [if_neg ho] at h
  simp at h
end
section
theorem On (s : ByteArray) (k : UInt8) (w : World) : Cq 100 #[.string s, .string ⟨#[k]⟩] (.tuple #[.string (Ab (if (bl s).head? = some k.toNat then (bl s).tail else bl s)), .bool ((bl s).head? == some k.toNat)]) w := by
 refine (Tryz.strings_CutPrefix s ⟨#[k]⟩ w).mono fun e w' h => ⟨?_, h.2.symm⟩
 rw [h.1]
 have e1 := Aa9 s k
 have e2 := Acc s k
 exact congrArg Ending.returned (by rw [show (⟨#[k]⟩ : ByteArray).data.toList = [k] from rfl, e1, e2])
theorem Ab9 (s : ByteArray) (k : UInt8) (w : World) : Cq 132 #[.string s, .string ⟨#[k]⟩] (.string (Ab (if (bl s).head? = some k.toNat then (bl s).tail else bl s))) w := by
 refine (Tryz.strings_TrimPrefix s ⟨#[k]⟩ w).mono fun e w' h => ⟨?_, h.2.symm⟩
 rw [h.1]
 have e1 := Aa9 s k
 exact congrArg Ending.returned (by rw [show (⟨#[k]⟩ : ByteArray).data.toList = [k] from rfl, e1])
theorem K4 (s p : ByteArray) (w : World) : Cq 100 #[.string s, .string p] (.tuple #[.string (Ab (if (bl p).isPrefixOf (bl s) = true then (bl s).drop p.size else bl s)), .bool ((bl p).isPrefixOf (bl s))]) w := by
 refine (Tryz.strings_CutPrefix s p w).mono fun e w' h => ⟨?_, h.2.symm⟩
 rw [h.1, Ag5, Aa0]
def sgF (b : Bool) : Nat := if b = true then 13830554455654793216 else 4607182418800017408
theorem Fg (s : ByteArray) (w : World) : Cq 99 #[.string s] (.tuple #[.float .f64 (sgF (Ia (bl s)) : Nat), .string (Ab (Cj (bl s)))]) w := by
 have C1 := Lh (On s 45 w)
 have C2 := Lh (Ab9 s 43 w)
 have h1 : ((bl s).head? == some (45 : UInt8).toNat) = Ia (bl s) := rfl
 rw [h1] at C1
 cases h : Ia (bl s)
 ·rw [h] at C1
  have e1 : Cj (bl s) = if (bl s).head? = some (43 : UInt8).toNat then (bl s).tail else bl s := by
   have h2 : ¬ (bl s).head? = some 45 := by
    intro e
    unfold Ia at h
    rw [e] at h
    simp at h
   unfold Cj
   by_cases h3 : (bl s).head? = some 43
   ·rw [if_pos (Or.inr h3)]; exact (if_pos h3).symm
   ·rw [if_neg (by rintro (h4 | h4); exact h2 h4; exact h3 h4)]; exact (if_neg h3).symm
  rw [← e1] at C2
  obtain ⟨t, ht⟩ : ∃ t, Ab (Cj (bl s)) = t := ⟨_, rfl⟩
  rw [ht] at C2 ⊢
  obtain ⟨t1, ht1⟩ : ∃ t1, Ab (if (bl s).head? = some (45 : UInt8).toNat then (bl s).tail else bl s) = t1 := ⟨_, rfl⟩
  rw [ht1] at C1
  clear h h1 e1 ht ht1
  go_enter Tryz.func99, Tryz.ntmps99
  go_wp2_with fail
  refine C1.out.mono ?_
  rintro e w' ⟨rfl, rfl⟩
  go_wp2_with fail
  refine C2.out.mono ?_
  rintro e w' ⟨rfl, rfl⟩
  go_wp2
  go_ret2
  exact ⟨rfl, rfl⟩
 ·rw [h] at C1
  have e1 : Cj (bl s) = if (bl s).head? = some (45 : UInt8).toNat then (bl s).tail else bl s := by
   have h2 : (bl s).head? = some 45 := by
    unfold Ia at h
    exact beq_iff_eq.1 h
   unfold Cj
   rw [if_pos (Or.inl h2)]
   exact (if_pos h2).symm
  rw [← e1] at C1
  obtain ⟨t, ht⟩ : ∃ t, Ab (Cj (bl s)) = t := ⟨_, rfl⟩
  rw [ht] at C1 ⊢
  clear h h1 e1 ht C2
  go_enter Tryz.func99, Tryz.ntmps99
  go_wp2_with fail
  refine C1.out.mono ?_
  rintro e w' ⟨rfl, rfl⟩
  go_wp2
  go_ret2
  exact ⟨rfl, rfl⟩
theorem My (a b : Nat) (l : List Nat) : [a, b].isPrefixOf l = (l.head? == some a && l.tail.head? == some b) := by
 cases l with
 | nil => rfl
 | cons c r =>
  cases r with
  | nil =>
   show (a == c && false) = (some c == some a && (none : Option Nat) == some b)
   rw [Bool.eq_iff_iff]; simp
  | cons d q =>
   show (a == c && (b == d && true)) = (some c == some a && some d == some b)
   rw [Bool.eq_iff_iff]
   simp only [Bool.and_true, Bool.and_eq_true, beq_iff_eq, Option.some.injEq]
   exact ⟨fun e => ⟨e.1.symm, e.2.symm⟩, fun e => ⟨e.1.symm, e.2.symm⟩⟩
theorem Ru (s : ByteArray) (w : World) : Cq 95 #[.string s] (.tuple #[.string (Ab (if hxA (bl s) = true then (bl s).drop 2 else bl s)), .bool (hxA (bl s))]) w := by
 have C1 := Lh (K4 s ⟨#[48, 120]⟩ w)
 have C2 := Lh (K4 s ⟨#[48, 88]⟩ w)
 have h1 : (bl ⟨#[48, 120]⟩).isPrefixOf (bl s) = ((bl s).head? == some 48 && (bl s).tail.head? == some 120) := My 48 120 (bl s)
 have h2 : (bl ⟨#[48, 88]⟩).isPrefixOf (bl s) = ((bl s).head? == some 48 && (bl s).tail.head? == some 88) := My 48 88 (bl s)
 have hx : hxA (bl s) = ((bl ⟨#[48, 120]⟩).isPrefixOf (bl s) || (bl ⟨#[48, 88]⟩).isPrefixOf (bl s)) := by
  rw [h1, h2]; unfold hxA; cases ((bl s).head? == some 48) <;> rfl
 rw [hx]
 clear h1 h2 hx
 obtain ⟨p, hp⟩ : ∃ p, (bl ⟨#[48, 120]⟩).isPrefixOf (bl s) = p := ⟨_, rfl⟩
 obtain ⟨q, hq⟩ : ∃ q, (bl ⟨#[48, 88]⟩).isPrefixOf (bl s) = q := ⟨_, rfl⟩
 rw [hp] at C1
 rw [hq] at C2
 rw [hp, hq]
 rw [show (⟨#[48, 120]⟩ : ByteArray).size = 2 from rfl] at C1
 rw [show (⟨#[48, 88]⟩ : ByteArray).size = 2 from rfl] at C2
 clear hp hq
 cases p
 ·rw [if_neg (by simp)] at C1
  rw [Bool.false_or]
  obtain ⟨t, ht⟩ : ∃ t, Ab (if q = true then (bl s).drop 2 else bl s) = t := ⟨_, rfl⟩
  rw [ht] at C2 ⊢
  obtain ⟨t1, ht1⟩ : ∃ t1, Ab (bl s) = t1 := ⟨_, rfl⟩
  clear ht ht1
  go_enter Tryz.func95, Tryz.ntmps95
  go_wp2_with fail
  refine C1.out.mono ?_
  rintro e w' ⟨rfl, rfl⟩
  go_wp2_with fail
  refine C2.out.mono ?_
  rintro e w' ⟨rfl, rfl⟩
  go_wp2
  go_ret2
  exact ⟨rfl, rfl⟩
 ·rw [if_pos rfl] at C1
  rw [Bool.true_or, if_pos rfl]
  obtain ⟨t, ht⟩ : ∃ t, Ab ((bl s).drop 2) = t := ⟨_, rfl⟩
  rw [ht] at C1 ⊢
  clear ht C2
  go_enter Tryz.func95, Tryz.ntmps95
  go_wp2_with fail
  refine C1.out.mono ?_
  rintro e w' ⟨rfl, rfl⟩
  go_wp2
  go_ret2
  exact ⟨rfl, rfl⟩
end
section
theorem Ac5 (s : ByteArray) {r : Nat} (hr : r ≤ 36) (w : World) : Ct 126 #[.string s, .string (Mj r)] (.string (Ab ((bl s).dropWhile (ldq r)))) w := by
 have h := Tryz.strings_TrimLeft_laid s (Mj r) w (by rw [Xt hr]; omega) (Aen hr)
 rw [Agk hr s] at h
 exact h
theorem Qi (p : Nat → Bool) (l : List Nat) : (l.dropWhile p).length ≤ l.length := (List.dropWhile_sublist p).length_le
theorem Dh (s : ByteArray) (r : Nat) (w : World) (hr : r ≤ 36) (hs : s.size ≤ 4611686018427387903) :
  Ct 96 #[.string s, .int .i64 r] (.tuple #[.string (Ab ((bl s).takeWhile (ldq r))), .string (Ab ((bl s).dropWhile (ldq r)))]) w := by
 have C1 := Lh (Ac5 s hr w)
 unfold Mj at C1
 have hle := Qi (ldq r) (bl s)
 rw [D3] at hle
 have hk := Aaa (ldq r) (bl s)
 rw [D3] at hk
 have hsz := Ag ((bl s).dropWhile (ldq r))
 obtain ⟨t, ht⟩ : ∃ t, Ab ((bl s).dropWhile (ldq r)) = t := ⟨_, rfl⟩
 rw [ht] at C1 hsz ⊢
 obtain ⟨k, hk2⟩ : ∃ k, s.size - t.size = k := ⟨_, rfl⟩
 have HE := Lh (show s.extract 0 k = Ab ((bl s).takeWhile (ldq r)) from by rw [Fp, ← hk, ← hk2, hsz])
 have h1 : (t.size : Int) ≤ (s.size : Int) := by omega
 have h2 : (s.size : Int) ≤ 4611686018427387903 := by omega
 have h3 : (s.size : Int) - (t.size : Int) = (k : Int) := by omega
 have h4 : (k : Int) ≤ (s.size : Int) := by omega
 have hr1 : (r : Int) ≤ 36 := by omega
 rw [← HE.out]
 clear hle hk hsz ht hk2 hr hs
 go_enter Tryz.func96, Tryz.ntmps96
 go_wp2_with fail
 refine C1.out.mono ?_
 rintro e w' ⟨rfl, hb⟩
 go_wp2
 go_ret2
 exact ⟨rfl, hb⟩
theorem O8 (s : ByteArray) (w : World) (hs : s.size ≤ 4611686018427387903) (hd : ∀ c ∈ bl s, Cm c = true) :
  Cq 182 #[.string s] (.int .i64 (amt (bl s) : Nat)) w := by
 have h2 : (s.size : Int) ≤ 4611686018427387903 := by omega
 have HD := Lh hd
 clear hd hs
 go_enter Tryz.func182, Tryz.ntmps182
 go_wp2
 go_loopw [3, 7] (fun nv i wr => ∃ k : Nat, i = .int .i64 k ∧ k ≤ s.size ∧ nv = .int .i64 (amt ((bl s).take k) : Nat) ∧ w = wr) (fun _ i _ => s.size - (intOf i).toNat)
 case atStart => exact ⟨0, rfl, Nat.zero_le _, rfl, rfl⟩
 case round =>
  obtain ⟨k, rfl, hk, rfl, rfl⟩ := hrel
  by_cases hlt : k < s.size
  ·obtain ⟨B, hB⟩ : ∃ B : Nat, (s[k]'hlt).toNat = B := ⟨_, rfl⟩
   have hget : (bl s)[k]? = some B := by rw [Tt s k hlt, hB]
   have hdB := Cc.1 (HD.out B (List.mem_of_getElem? hget))
   obtain ⟨N, hN⟩ : ∃ N, amt ((bl s).take k) = N := ⟨_, rfl⟩
   have hNl : N < 10995116277760 := by rw [← hN]; exact To _ (fun c hc => HD.out c (List.mem_of_mem_take hc))
   have hstep : amt ((bl s).take (k + 1)) = Rx N B := by rw [List.take_add_one, hget, ← hN]; exact Aa7 _ _
   rw [hN]
   have a1 : (0 : Int) ≤ (k : Int) := by omega
   have a2 : (k : Int) < (s.size : Int) := by omega
   have a3 : ((s[k]'hlt).toNat : Int) = (B : Int) := by rw [hB]
   obtain ⟨D, hD⟩ : ∃ D : Nat, B - 48 = D := ⟨_, rfl⟩
   have a4 : IntKind.u8.wrap ((B : Int) - 48) = (D : Int) := by rw [IntWalk.u8_in _ (by omega)]; omega
   have a5 : IntKind.i64.wrap (D : Int) = (D : Int) := IntWalk.i64_in _ (by omega)
   by_cases hc : N < 1099511627776
   ·obtain ⟨M, hM⟩ : ∃ M : Nat, N * 10 + D = M := ⟨_, rfl⟩
    have HS := Lh (show amt ((bl s).take (k + 1)) = M from by rw [hstep]; unfold Rx; rw [if_pos hc, hD, hM])
    have a6 : IntKind.i64.wrap (10 * (N : Int)) = 10 * (N : Int) := IntWalk.i64_in _ (by omega)
    have a7 : IntKind.i64.wrap (10 * (N : Int) + (D : Int)) = (M : Int) := by rw [IntWalk.i64_in _ (by omega)]; omega
    have t1 : decide ((N : Int) < 1099511627776) = true := decide_eq_true (by omega)
    clear hget hdB hN hNl hstep hB hD hM hc HD hk
    go_wp2
    exact ⟨⟨k + 1, by go_num, by omega, by rw [HS.out], trivial⟩, by simp [intOf]; omega⟩
   ·have HS := Lh (show amt ((bl s).take (k + 1)) = N from by rw [hstep]; unfold Rx; rw [if_neg hc])
    have t1 : decide ((N : Int) < 1099511627776) = false := decide_eq_false (by omega)
    clear hget hdB hN hNl hstep hB hD hc HD hk a3 a4 a5
    go_wp2
    exact ⟨⟨k + 1, by go_num, by omega, by rw [HS.out], trivial⟩, by simp [intOf]; omega⟩
  ·have HZ := Lh (show (bl s).take k = bl s from List.take_of_length_le (by rw [D3]; omega))
   go_wp2
   go_ret
   exact ⟨by rw [HZ.out]; rfl, rfl⟩
def sgI (b : Bool) : Int := if b = true then -1 else 1
theorem Aea (b : Bool) : ∀ W : World, (convert 22 3 (.float .f64 (sgF b))).run Tryz.prog W = .ok (.int .i64 (sgI b)) W := by
 intro W
 cases b
 ·rfl
 ·rfl
theorem Hn {l : List Nat} : ∀ c ∈ l.tail, c ∈ l := fun _ h => List.mem_of_mem_tail h
theorem Sa {l : List Nat} : ∀ c ∈ Cj l, c ∈ l := by
 intro c h
 unfold Cj at h
 split at h
 ·exact Hn c h
 ·exact h
theorem Afh {l : List Nat} : ∀ c ∈ Ce l, c ∈ l := fun _ h => (List.takeWhile_sublist _).subset h
theorem N2 {l : List Nat} : ∀ c ∈ Am l, c ∈ l := fun _ h => (List.dropWhile_sublist _).subset h
theorem Pl (l : List Nat) : (Cj l).length ≤ l.length := by
 unfold Cj
 split
 ·rw [List.length_tail]; omega
 ·omega
theorem Ug : ldq 10 = Cm := funext Afm
theorem In {l : List Nat} (h : l ≠ []) : ¬ (Ab l).toList = [] ∧ (Ab l).toList.isEmpty = false := by
 have h1 : ¬ (Ab l).toList = [] := by
  rw [Lib.toList_data]
  unfold Ab
  simpa using h
 refine ⟨h1, ?_⟩
 cases hh : (Ab l).toList with
 | nil => exact absurd hh h1
 | cons => rfl
theorem N7 (l : List Nat) (w : World) (hl : ∀ c ∈ l, c < 256) (hs : l.length ≤ 4611686018427387903) :
  Ct 96 #[.string (Ab l), .int .i64 10] (.tuple #[.string (Ab (Ce l)), .string (Ab (Am l))]) w := by
 have h := Dh (Ab l) 10 w (by omega) (by rw [Ag]; exact hs)
 rw [Aj hl, Ug] at h
 exact h
theorem V4 {l : List Nat} (h : ¬ (l.head? = some 101 ∨ l.head? = some 69)) : Hf l = false := by
 unfold Hf
 have h1 : (l.head? == some 101) = false := beq_eq_false_iff_ne.2 (fun e => h (Or.inl e))
 have h2 : (l.head? == some 69) = false := beq_eq_false_iff_ne.2 (fun e => h (Or.inr e))
 rw [h1, h2]; rfl
theorem Aew {l : List Nat} (h : l.head? = some 101 ∨ l.head? = some 69) : Hf l = !(Ce (Cj l.tail)).isEmpty := by
 unfold Hf
 have h1 : (l.head? == some 101 || l.head? == some 69) = true := by
  rcases h with h | h
  ·rw [h]; rfl
  ·rw [h]; rfl
 rw [h1, Bool.true_and]
def ExpQ (l : List Nat) (w : World) (e : Ending) (w' : World) : Prop :=
 e = .returned (.tuple #[.int .i64 (exV l), .string (Ab (if Hf l = true then Yz l else [])), .bool (Hf l)]) ∧ Below w.heap.size w w'
theorem ExpQ.no {l : List Nat} {w w' : World} (h : Hf l = false) (hb : Below w.heap.size w w') : ExpQ l w (.returned (.tuple #[.int .i64 0, .string ⟨#[]⟩, .bool false])) w' := by
 refine ⟨?_, hb⟩
 unfold exV
 rw [h, if_neg (by simp), if_neg (by simp)]
 rfl
theorem ExpQ.yes {l : List Nat} {w w' : World} (h : Hf l = true) (hb : Below w.heap.size w w') : ExpQ l w (.returned (.tuple #[.int .i64 (Ma l), .string (Ab (Yz l)), .bool true])) w' := by
 refine ⟨?_, hb⟩
 unfold exV
 rw [h, if_pos rfl, if_pos rfl]
theorem Il (s : ByteArray) (w : World) (hs : s.size ≤ 4611686018427387903) :
  Cp 134 #[.string s] w (ExpQ (bl s) w) := by
 have h2 : (s.size : Int) ≤ 4611686018427387903 := by omega
 by_cases h0 : s.size = 0
 ·have hnil : bl s = [] := List.eq_nil_of_length_eq_zero (by rw [D3]; exact h0)
  have hE := ExpQ.no (l := bl s) (V4 (by rw [hnil]; simp)) (Below.refl w.heap.size w)
  have hz : s = ⟨#[]⟩ := by
   have := Qy s
   rw [hnil] at this
   exact this.symm
  clear hnil
  subst hz
  have HE := Lh hE
  clear hE h0 hs h2
  go_enter Tryz.func134, Tryz.ntmps134
  go_wp2
  refine bodyPost_ret (Ax rfl _ _ _) rfl ?_
  exact HE.out
 ·have hp : 0 < s.size := by omega
  obtain ⟨B, hB⟩ : ∃ B : Nat, (s[0]'hp).toNat = B := ⟨_, rfl⟩
  have hhd : (bl s).head? = some B := by rw [List.head?_eq_getElem?, Tt s 0 hp, hB]
  have a2 : (0 : Int) < (s.size : Int) := by omega
  have a3 : ((s[0]'hp).toNat : Int) = (B : Int) := by rw [hB]
  have hne := In (l := bl s) (by intro e; rw [e] at hhd; cases hhd)
  rw [Qy] at hne
  obtain ⟨n1, n2⟩ := hne
  by_cases hc : B = 101 ∨ B = 69
  ·have hx := Aew (l := bl s) (by rw [hhd]; rcases hc with h | h <;> simp [h])
   have e1 : bl (s.extract 1 s.size) = (bl s).tail := by rw [Vf]; exact List.drop_one
   have C1 := Lh (Fg (s.extract 1 s.size) w)
   rw [e1] at C1
   obtain ⟨U, hU⟩ : ∃ U, Cj (bl s).tail = U := ⟨_, rfl⟩
   rw [hU] at C1 hx
   have hU2 : ∀ c ∈ U, c < 256 := fun c h => M0 s c (Hn c (Sa c (by rw [hU]; exact h)))
   have hU3 : U.length ≤ 4611686018427387903 := by
    have k1 := Pl (bl s).tail
    rw [hU, List.length_tail, D3] at k1
    omega
   have C2 := Lh (N7 U w hU2 hU3)
   have hR := Gf U
   have hRl := Gi U
   have hR2 : ∀ c ∈ Ce U, c < 256 := fun c h => hU2 c (Afh c h)
   have hV : Ma (bl s) = if Ia (bl s).tail = true then -(amt (Ce U) : Int) else (amt (Ce U) : Int) := by unfold Ma; rw [hU]
   have hT : Yz (bl s) = Am U := by unfold Yz; rw [hU]
   obtain ⟨b, hb⟩ : ∃ b, Ia (bl s).tail = b := ⟨_, rfl⟩
   rw [hb] at C1 hV
   obtain ⟨R, hRR⟩ : ∃ R, Ce U = R := ⟨_, rfl⟩
   rw [hRR] at C2 hR hRl hR2 hV hx
   have m1 : ∀ W, Cq 99 #[.string (s.extract 1 s.size)] (.tuple #[.float .f64 (sgF b : Nat), .string (Ab U)]) W := by
    intro W
    have := Fg (s.extract 1 s.size) W
    rw [e1, hU, hb] at this
    exact this
   by_cases hR0 : R = []
   ·have HE := Lh (fun w' => ExpQ.no (l := bl s) (w := w) (w' := w') (by rw [hx, hR0]; rfl))
    rw [hR0, Wx] at C2
    rw [show ByteArray.empty = (⟨#[]⟩ : ByteArray) from rfl] at C2
    obtain ⟨u, hu⟩ : ∃ u, Ab U = u := ⟨_, rfl⟩
    obtain ⟨v, hv⟩ : ∃ v, Ab (Am U) = v := ⟨_, rfl⟩
    rw [hu] at C1 C2
    rw [hv] at C2
    clear hx e1 hU hU2 hU3 hR hRl hR2 hV hT hb hRR hR0 hu hv hhd hB hs m1 h0
    have t1 : ((B : Int) != 101 && (B : Int) != 69) = false := by rcases hc with rfl | rfl <;> rfl
    have t2 : (B = 101 ∧ ((B : Int) != 101) = false) ∨ (((B : Int) != 101) = true ∧ ((B : Int) != 69) = false) := by rcases hc with rfl | rfl <;> simp
    clear hc
    rcases t2 with ⟨_, t2⟩ | ⟨t2, t3⟩
    ·go_enter Tryz.func134, Tryz.ntmps134
     go_wp2_with fail
     refine C1.out.mono ?_
     rintro e w' ⟨rfl, rfl⟩
     go_wp2_with fail
     refine C2.out.mono ?_
     rintro e w' ⟨rfl, hbw⟩
     go_wp2
     refine bodyPost_ret (Ax rfl _ _ _) rfl ?_
     exact HE.out _ hbw
    ·go_enter Tryz.func134, Tryz.ntmps134
     go_wp2_with fail
     refine C1.out.mono ?_
     rintro e w' ⟨rfl, rfl⟩
     go_wp2_with fail
     refine C2.out.mono ?_
     rintro e w' ⟨rfl, hbw⟩
     go_wp2
     refine bodyPost_ret (Ax rfl _ _ _) rfl ?_
     exact HE.out _ hbw
   ·have HE := Lh (fun w' => ExpQ.yes (l := bl s) (w := w) (w' := w') (by rw [hx]; cases R with | nil => exact absurd rfl hR0 | cons => rfl))
    obtain ⟨r1, r2⟩ := In hR0
    have C3 := Lh (fun W => O8 (Ab R) W (by rw [Ag]; omega) (by rw [Aj hR2]; exact hR))
    rw [Aj hR2] at C3
    have hal := To R hR
    obtain ⟨N, hN⟩ : ∃ N, amt R = N := ⟨_, rfl⟩
    rw [hN] at C3 hal hV
    have K1 := Lh (Aea b)
    have a5 : IntKind.i64.wrap (sgI b * (N : Int)) = Ma (bl s) := by
     rw [hV]
     cases b
     ·rw [if_neg (by simp), show sgI false = 1 from rfl, IntWalk.i64_in _ (by omega)]; omega
     ·rw [if_pos rfl, show sgI true = -1 from rfl, IntWalk.i64_in _ (by omega)]; omega
    obtain ⟨X, hX⟩ : ∃ X, Ma (bl s) = X := ⟨_, rfl⟩
    rw [hX] at HE a5
    rw [hT] at HE
    obtain ⟨u, hu⟩ : ∃ u, Ab U = u := ⟨_, rfl⟩
    obtain ⟨v, hv⟩ : ∃ v, Ab (Am U) = v := ⟨_, rfl⟩
    obtain ⟨f, hf⟩ : ∃ f, Ab R = f := ⟨_, rfl⟩
    rw [hu] at C1 C2
    rw [hv] at C2 HE
    rw [hf] at C2 C3 r1 r2
    have K1 := K1.out
    have t2 : (B = 101 ∧ ((B : Int) != 101) = false) ∨ (((B : Int) != 101) = true ∧ ((B : Int) != 69) = false) := by rcases hc with rfl | rfl <;> simp
    clear hx e1 hU hU2 hU3 hR hRl hR2 hV hT hb hRR hR0 hu hv hf hhd hB hs m1 h0 hc hN hal hX
    rcases t2 with ⟨_, t2⟩ | ⟨t2, t3⟩
    ·go_enter Tryz.func134, Tryz.ntmps134
     go_wp2_with fail
     refine C1.out.mono ?_
     rintro e w' ⟨rfl, rfl⟩
     go_wp2_with fail
     refine C2.out.mono ?_
     rintro e w' ⟨rfl, hbw⟩
     go_wp2_with fail
     refine Sm (C3.out _) ?_
     go_wp2
     refine bodyPost_ret (Ax rfl _ _ _) rfl ?_
     exact HE.out _ hbw
    ·go_enter Tryz.func134, Tryz.ntmps134
     go_wp2_with fail
     refine C1.out.mono ?_
     rintro e w' ⟨rfl, rfl⟩
     go_wp2_with fail
     refine C2.out.mono ?_
     rintro e w' ⟨rfl, hbw⟩
     go_wp2_with fail
     refine Sm (C3.out _) ?_
     go_wp2
     refine bodyPost_ret (Ax rfl _ _ _) rfl ?_
     exact HE.out _ hbw
  ·have HE := Lh (ExpQ.no (l := bl s) (V4 (by rw [hhd]; rintro (h | h) <;> exact hc (by simp at h; omega))) (Below.refl w.heap.size w))
   have t1 : ((B : Int) != 101) = true := by rw [bne_iff_ne]; omega
   have t2 : ((B : Int) != 69) = true := by rw [bne_iff_ne]; omega
   clear hhd hB hs hc h0
   go_enter Tryz.func134, Tryz.ntmps134
   go_wp2
   refine bodyPost_ret (Ax rfl _ _ _) rfl ?_
   exact HE.out
end
section
theorem Oa {l : List Nat} {w w' : World} {e : Ending} (h : ExpQ l w e w') (hb : Hf l = false) : e = .returned (.tuple #[.int .i64 0, .string ⟨#[]⟩, .bool false]) ∧ Below w.heap.size w w' := by
 obtain ⟨h1, h2⟩ := h
 refine ⟨?_, h2⟩
 rw [h1]
 unfold exV
 rw [hb, if_neg (by simp), if_neg (by simp)]
 rfl
theorem Lm {l : List Nat} {w w' : World} {e : Ending} (h : ExpQ l w e w') (hb : Hf l = true) : e = .returned (.tuple #[.int .i64 (Ma l), .string (Ab (Yz l)), .bool true]) ∧ Below w.heap.size w w' := by
 obtain ⟨h1, h2⟩ := h
 refine ⟨?_, h2⟩
 rw [h1]
 unfold exV
 rw [hb, if_pos rfl, if_pos rfl]
def Agl (l : List Nat) (w : World) (e : Ending) (w' : World) : Prop :=
 e = .returned (.tuple #[.agg #[.string (Ab (dW l)), .string (Ab (dF l)), .int .i64 (dX l)], .string (Ab (dR l)), .bool true]) ∧ Below w.heap.size w w'
theorem Jd (s : ByteArray) (w : World) (hs : s.size ≤ 4611686018427387903) (h : dB (bl s) = true) : Cp 102 #[.string s] w (Agl (bl s) w) := by
 obtain ⟨l, hl⟩ : ∃ l, bl s = l := ⟨_, rfl⟩
 have hlt := M0 s
 have hlen := D3 s
 rw [hl] at h hlt hlen ⊢
 have hA : ∀ c ∈ Am l, c < 256 := fun c hc => hlt c (N2 c hc)
 have hAl := Gi l
 have C1 := fun W => Dh s 10 W (by omega) hs
 rw [hl, Ug] at C1
 have C2 := fun W => On (Ab (Am l)) 46 W
 rw [Aj hA] at C2
 have e2 : ((Am l).head? == some (46 : UInt8).toNat) = Sv (Am l) := rfl
 rw [e2] at C2
 have key : ∀ T : List Nat, (∀ c ∈ T, c < 256) → T.length ≤ 4611686018427387903 → ∀ W, Cp 134 #[.string (Ab T)] W (ExpQ T W) := by
  intro T h1 h2 W
  have := Il (Ab T) W (by rw [Ag]; exact h2)
  rw [Aj h1] at this
  exact this
 have ne : ∀ R : List Nat, R ≠ [] → (Ab R).toList.isEmpty = false := fun R hR => (In hR).2
 cases hd : Sv (Am l)
 ·rw [hd] at C2
  have hF : dF l = [] := by unfold dF; rw [hd, if_neg (by simp)]
  have hT : dT l = Am l := by unfold dT; rw [hd, if_neg (by simp)]
  have hW : dW l ≠ [] := by
   intro e
   unfold dB at h
   rw [hF, e] at h
   simp at h
  have C3 := key (Am l) hA (by omega)
  unfold Agl
  have hX : dX l = exV (Am l) := by unfold dX; rw [hT]
  have hR : dR l = exR (Am l) := by unfold dR; rw [hT]
  rw [hF, hX, hR]
  unfold exV exR
  cases hb : Hf (Am l)
  ·rw [if_neg (by simp), if_neg (by simp)]
   exact Gn s w _ _ _ _ 0 (ne _ hW) (Lh C1) (Lh C2) (Lh (fun W => (C3 W).mono fun e w' x => Oa x hb))
  ·rw [if_pos rfl, if_pos rfl]
   exact Gz s w _ _ _ _ _ (ne _ hW) (Lh C1) (Lh C2) (Lh (fun W => (C3 W).mono fun e w' x => Lm x hb))
 ·rw [hd] at C2
  have hh : (Am l).head? = some (46 : UInt8).toNat := beq_iff_eq.1 hd
  rw [if_pos hh] at C2
  have hF : dF l = Ce (Am l).tail := by unfold dF; rw [hd, if_pos rfl]
  have hT : dT l = Am (Am l).tail := by unfold dT; rw [hd, if_pos rfl]
  have hA2 : ∀ c ∈ (Am l).tail, c < 256 := fun c hc => hA c (Hn c hc)
  have hl2 : (Am l).tail.length ≤ 4611686018427387903 := by rw [List.length_tail]; omega
  have C4 := fun W => N7 (Am l).tail W hA2 hl2
  have hl3 := Gi (Am l).tail
  have C3 := key (Am (Am l).tail) (fun c hc => hA2 c (N2 c hc)) (by omega)
  unfold Agl
  have hX : dX l = exV (Am (Am l).tail) := by unfold dX; rw [hT]
  have hR : dR l = exR (Am (Am l).tail) := by unfold dR; rw [hT]
  rw [hF, hX, hR]
  unfold exV exR
  by_cases hW : Ce l = []
  ·have hF2 : Ce (Am l).tail ≠ [] := by
    intro e
    unfold dB dW at h
    rw [hF, e, hW] at h
    simp at h
   have C1 : ∀ W, Ct 96 #[.string s, .int .i64 10] (.tuple #[.string ⟨#[]⟩, .string (Ab (Am l))]) W := by
    have C1' : ∀ W, Ct 96 #[.string s, .int .i64 10] (.tuple #[.string (Ab (Ce l)), .string (Ab (Am l))]) W := C1
    rw [hW] at C1'
    exact C1'
   unfold dW
   rw [hW]
   cases hb : Hf (Am (Am l).tail)
   ·rw [if_neg (by simp), if_neg (by simp)]
    exact F0 s w _ _ _ _ ⟨#[]⟩ 0 (ne _ hF2) (Lh C1) (Lh C2) (Lh C4) (Lh (fun W => (C3 W).mono fun e w' x => Oa x hb))
   ·rw [if_pos rfl, if_pos rfl]
    exact Gp s w _ _ _ _ _ _ (ne _ hF2) (Lh C1) (Lh C2) (Lh C4) (Lh (fun W => (C3 W).mono fun e w' x => Lm x hb))
  ·cases hb : Hf (Am (Am l).tail)
   ·rw [if_neg (by simp), if_neg (by simp)]
    exact Fs s w _ _ _ _ _ ⟨#[]⟩ 0 (ne _ hW) (Lh C1) (Lh C2) (Lh C4) (Lh (fun W => (C3 W).mono fun e w' x => Oa x hb))
   ·rw [if_pos rfl, if_pos rfl]
    exact Gq s w _ _ _ _ _ _ _ (ne _ hW) (Lh C1) (Lh C2) (Lh C4) (Lh (fun W => (C3 W).mono fun e w' x => Lm x hb))
theorem K8 (s : ByteArray) (w : World) (hs : s.size ≤ 4611686018427387903) (h : dB (bl s) = false) :
  Cp 102 #[.string s] w (fun e w' => e = .returned (.tuple #[.agg #[.string ⟨#[]⟩, .string ⟨#[]⟩, .int .i64 0], .string ⟨#[]⟩, .bool false]) ∧ Below w.heap.size w w') := by
 obtain ⟨l, hl⟩ : ∃ l, bl s = l := ⟨_, rfl⟩
 have hlt := M0 s
 have hlen := D3 s
 rw [hl] at h hlt hlen
 have hA : ∀ c ∈ Am l, c < 256 := fun c hc => hlt c (N2 c hc)
 have hAl := Gi l
 have C1 : ∀ W, Ct 96 #[.string s, .int .i64 10] (.tuple #[.string (Ab (Ce l)), .string (Ab (Am l))]) W := by
  intro W
  have := Dh s 10 W (by omega) hs
  rw [hl, Ug] at this
  exact this
 have C2 := fun W => On (Ab (Am l)) 46 W
 rw [Aj hA] at C2
 have e2 : ((Am l).head? == some (46 : UInt8).toNat) = Sv (Am l) := rfl
 rw [e2] at C2
 unfold dB dW at h
 have hW : Ce l = [] := by
  cases hr : Ce l with
  | nil => rfl
  | cons => rw [hr] at h; simp at h
 have hF : dF l = [] := by
  cases hr : dF l with
  | nil => rfl
  | cons => rw [hr, hW] at h; simp at h
 rw [hW] at C1
 cases hd : Sv (Am l)
 ·rw [hd] at C2
  have hne : ¬ (Am l).head? = some (46 : UInt8).toNat := by
   intro e
   unfold Sv at hd
   rw [e] at hd
   simp at hd
  rw [if_neg hne] at C2
  exact Ih s w _ (Lh C1) (Lh C2)
 ·rw [hd] at C2
  have hh : (Am l).head? = some (46 : UInt8).toNat := beq_iff_eq.1 hd
  rw [if_pos hh] at C2
  have hA2 : ∀ c ∈ (Am l).tail, c < 256 := fun c hc => hA c (Hn c hc)
  have hl2 : (Am l).tail.length ≤ 4611686018427387903 := by rw [List.length_tail]; omega
  have C4 := fun W => N7 (Am l).tail W hA2 hl2
  have hF2 : Ce (Am l).tail = [] := by
   unfold dF at hF
   rw [hd, if_pos rfl] at hF
   exact hF
  rw [hF2] at C4
  exact Je s w _ _ _ (Lh C1) (Lh C2) (Lh C4)
end
section
theorem Xh {r s : Nat} (h : Ac r ≤ Ac s) : r ≤ s := by
 rcases Nat.lt_or_ge s r with h1 | h1
 ·have := Bf h1
  omega
 ·exact h1
theorem Abi {E D : Nat} {e' : Int} (hE : E ≤ 9007199254740992) (hD : D = 0 ∨ 4503599627370496 ≤ E) (hD2 : D ≤ 8000) (he : e' = (D : Int) - 1074) (w : World) : Cq 179 #[.float .f64 (fl E), .int .i64 e'] (.float .f64 (min (D * 4503599627370496 + E) 9218868437227405312)) w := by
 rcases Nat.lt_or_ge 2045 D with h | h
 ·obtain ⟨K, hK⟩ : ∃ K : Nat, K = 1074 := ⟨_, rfl⟩
  obtain ⟨y1, y2⟩ := Vq hE hK
  have hE2 : 4503599627370496 ≤ E := hD.resolve_left (by omega)
  have e1 := Ap 4503599627370496 K (by omega) (by omega)
  have h3 : K * 4503599627370496 + 4503599627370496 ≤ fl E := by
   refine Xh ?_
   rw [e1, y2]
   exact Nat.mul_le_mul_right _ hE2
  have h4 := Im (fl E) (D - 1074) w (by omega) y1 (by omega)
  have h5 : scl (fl E) (D - 1074) = 9218868437227405312 := by
   unfold scl
   rw [if_neg]
   have : K + 1 ≤ fl E / 4503599627370496 := by
    rw [Nat.le_div_iff_mul_le (by omega)]
    omega
   omega
  rw [h5] at h4
  rw [show e' = ((D - 1074 : Nat) : Int) by omega, Nat.min_eq_right (by omega)]
  exact h4
 ·exact Aec hE hD h he w
theorem Uy (n d L q H P r s E F : Nat) (two X : Int) (w : World) (hnb : n < 18446744073709551616) (hL : Lib.bitLen n = L) (hd0 : 1 ≤ d) (hd3 : d ≤ 10) (k1 : IntKind.i64.wrap (-1074 - two) = -1074 - two) (k2 : IntKind.i64.wrap ((L : Int) - 53) = (L : Int) - 53) (hd : max ((L : Int) - 53) (-1074 - two) = (d : Int))
  (q1 : (n : Int) / 2 ^ d = (q : Int)) (q2 : IntKind.u64.wrap (2 ^ d) = (P : Int)) (q3 : IntKind.u64.wrap ((P : Int) - 1) = (P : Int) - 1) (q4 : IntKind.u64.wrap (2 ^ (d - 1)) = (H : Int)) (q5 : bits BinOp.and IntKind.u64 (n : Int) ((P : Int) - 1) = (r : Int)) (q6 : bits BinOp.and IntKind.u64 (q : Int) 1 = (s : Int)) (q7 : IntKind.u64.wrap ((q : Int) + 1) = (q : Int) + 1) (q8 : wrap64 (two + (d : Int)) = X)
  (t1 : decide (H < r) = true) (hE : (q : Int) + 1 = (E : Int))
  (C2 : Hid (∀ W, Cq 179 #[.float .f64 (floatOfInt .f64 (E : Int)), .int .i64 X] (.float .f64 F) W)) :
  Ct 190 #[.int .u64 n, .int .i64 two] (.float .f64 F) w := by
 have C1 := Lh (fun W => (Tryz.bits_Len64 (n : Int) W (by omega) (by omega)).mono fun e w' h => And.intro h.1 h.2.symm)
 rw [Int.toNat_natCast, hL] at C1
 have k3 : (0 : Int) ≤ (d : Int) := by omega
 have k4 : (0 : Int) ≤ (d : Int) - 1 := by omega
 rw [← hE] at C2
 have Q1 := Lh q1
 have Q2 := Lh q2
 have Q3 := Lh q3
 have Q4 := Lh q4
 have Q5 := Lh q5
 have Q6 := Lh q6
 have Q7 := Lh q7
 have Q8 := Lh q8
 have T1 := Lh t1
 clear t1 hL hnb hE q1 q2 q3 q4 q5 q6 q7 q8
 go_enter Tryz.func190, Tryz.ntmps190
 go_wp2_with fail
 refine Sm (C1.out _) ?_
 go_wp2
 go_quiet (fail)
 have q1 := Q1.out
 have q2 := Q2.out
 have q3 := Q3.out
 have q4 := Q4.out
 have q5 := Q5.out
 have q6 := Q6.out
 have q7 := Q7.out
 have q8 := Q8.out
 have t1 := T1.out
 go_wp2_with fail
 refine Sm (C2.out _) ?_
 go_wp2
 go_ret
 exact ⟨rfl, Ae (Below.refl _ _) _⟩
theorem U0 (n d L q H P s E F : Nat) (two X : Int) (w : World) (hnb : n < 18446744073709551616) (hL : Lib.bitLen n = L) (hd0 : 1 ≤ d) (hd3 : d ≤ 10) (k1 : IntKind.i64.wrap (-1074 - two) = -1074 - two) (k2 : IntKind.i64.wrap ((L : Int) - 53) = (L : Int) - 53) (hd : max ((L : Int) - 53) (-1074 - two) = (d : Int))
  (q1 : (n : Int) / 2 ^ d = (q : Int)) (q2 : IntKind.u64.wrap (2 ^ d) = (P : Int)) (q3 : IntKind.u64.wrap ((P : Int) - 1) = (P : Int) - 1) (q4 : IntKind.u64.wrap (2 ^ (d - 1)) = (H : Int)) (q5 : bits BinOp.and IntKind.u64 (n : Int) ((P : Int) - 1) = (H : Int)) (q6 : bits BinOp.and IntKind.u64 (q : Int) 1 = (s : Int)) (q7 : IntKind.u64.wrap ((q : Int) + 1) = (q : Int) + 1) (q8 : wrap64 (two + (d : Int)) = X)
  (t3 : ((s : Int) == 1) = true) (hE : (q : Int) + 1 = (E : Int))
  (C2 : Hid (∀ W, Cq 179 #[.float .f64 (floatOfInt .f64 (E : Int)), .int .i64 X] (.float .f64 F) W)) :
  Ct 190 #[.int .u64 n, .int .i64 two] (.float .f64 F) w := by
 have C1 := Lh (fun W => (Tryz.bits_Len64 (n : Int) W (by omega) (by omega)).mono fun e w' h => And.intro h.1 h.2.symm)
 rw [Int.toNat_natCast, hL] at C1
 have k3 : (0 : Int) ≤ (d : Int) := by omega
 have k4 : (0 : Int) ≤ (d : Int) - 1 := by omega
 rw [← hE] at C2
 have Q1 := Lh q1
 have Q2 := Lh q2
 have Q3 := Lh q3
 have Q4 := Lh q4
 have Q5 := Lh q5
 have Q6 := Lh q6
 have Q7 := Lh q7
 have Q8 := Lh q8
 have T3 := Lh t3
 clear t3 hL hnb hE q1 q2 q3 q4 q5 q6 q7 q8
 go_enter Tryz.func190, Tryz.ntmps190
 go_wp2_with fail
 refine Sm (C1.out _) ?_
 go_wp2
 go_quiet (fail)
 have q1 := Q1.out
 have q2 := Q2.out
 have q3 := Q3.out
 have q4 := Q4.out
 have q5 := Q5.out
 have q6 := Q6.out
 have q7 := Q7.out
 have q8 := Q8.out
 have t3 := T3.out
 go_wp2_with fail
 refine Sm (C2.out _) ?_
 go_wp2
 go_ret
 exact ⟨rfl, Ae (Below.refl _ _) _⟩
theorem T0 (n d L q H P s E F : Nat) (two X : Int) (w : World) (hnb : n < 18446744073709551616) (hL : Lib.bitLen n = L) (hd0 : 1 ≤ d) (hd3 : d ≤ 10) (k1 : IntKind.i64.wrap (-1074 - two) = -1074 - two) (k2 : IntKind.i64.wrap ((L : Int) - 53) = (L : Int) - 53) (hd : max ((L : Int) - 53) (-1074 - two) = (d : Int))
  (q1 : (n : Int) / 2 ^ d = (q : Int)) (q2 : IntKind.u64.wrap (2 ^ d) = (P : Int)) (q3 : IntKind.u64.wrap ((P : Int) - 1) = (P : Int) - 1) (q4 : IntKind.u64.wrap (2 ^ (d - 1)) = (H : Int)) (q5 : bits BinOp.and IntKind.u64 (n : Int) ((P : Int) - 1) = (H : Int)) (q6 : bits BinOp.and IntKind.u64 (q : Int) 1 = (s : Int)) (q7 : IntKind.u64.wrap ((q : Int) + 1) = (q : Int) + 1) (q8 : wrap64 (two + (d : Int)) = X)
  (t3 : ((s : Int) == 1) = false) (hE : (q : Int) = (E : Int))
  (C2 : Hid (∀ W, Cq 179 #[.float .f64 (floatOfInt .f64 (E : Int)), .int .i64 X] (.float .f64 F) W)) :
  Ct 190 #[.int .u64 n, .int .i64 two] (.float .f64 F) w := by
 have C1 := Lh (fun W => (Tryz.bits_Len64 (n : Int) W (by omega) (by omega)).mono fun e w' h => And.intro h.1 h.2.symm)
 rw [Int.toNat_natCast, hL] at C1
 have k3 : (0 : Int) ≤ (d : Int) := by omega
 have k4 : (0 : Int) ≤ (d : Int) - 1 := by omega
 rw [← hE] at C2
 have Q1 := Lh q1
 have Q2 := Lh q2
 have Q3 := Lh q3
 have Q4 := Lh q4
 have Q5 := Lh q5
 have Q6 := Lh q6
 have Q7 := Lh q7
 have Q8 := Lh q8
 have T3 := Lh t3
 clear t3 hL hnb hE q1 q2 q3 q4 q5 q6 q7 q8
 go_enter Tryz.func190, Tryz.ntmps190
 go_wp2_with fail
 refine Sm (C1.out _) ?_
 go_wp2
 go_quiet (fail)
 have q1 := Q1.out
 have q2 := Q2.out
 have q3 := Q3.out
 have q4 := Q4.out
 have q5 := Q5.out
 have q6 := Q6.out
 have q7 := Q7.out
 have q8 := Q8.out
 have t3 := T3.out
 go_wp2_with fail
 refine Sm (C2.out _) ?_
 go_wp2
 go_ret
 exact ⟨rfl, Ae (Below.refl _ _) _⟩
theorem Sq (n d L q H P r s E F : Nat) (two X : Int) (w : World) (hnb : n < 18446744073709551616) (hL : Lib.bitLen n = L) (hd0 : 1 ≤ d) (hd3 : d ≤ 10) (k1 : IntKind.i64.wrap (-1074 - two) = -1074 - two) (k2 : IntKind.i64.wrap ((L : Int) - 53) = (L : Int) - 53) (hd : max ((L : Int) - 53) (-1074 - two) = (d : Int))
  (q1 : (n : Int) / 2 ^ d = (q : Int)) (q2 : IntKind.u64.wrap (2 ^ d) = (P : Int)) (q3 : IntKind.u64.wrap ((P : Int) - 1) = (P : Int) - 1) (q4 : IntKind.u64.wrap (2 ^ (d - 1)) = (H : Int)) (q5 : bits BinOp.and IntKind.u64 (n : Int) ((P : Int) - 1) = (r : Int)) (q6 : bits BinOp.and IntKind.u64 (q : Int) 1 = (s : Int)) (q7 : IntKind.u64.wrap ((q : Int) + 1) = (q : Int) + 1) (q8 : wrap64 (two + (d : Int)) = X)
  (t1 : decide (H < r) = false) (t2 : ((r : Int) == (H : Int)) = false) (hE : (q : Int) = (E : Int))
  (C2 : Hid (∀ W, Cq 179 #[.float .f64 (floatOfInt .f64 (E : Int)), .int .i64 X] (.float .f64 F) W)) :
  Ct 190 #[.int .u64 n, .int .i64 two] (.float .f64 F) w := by
 have C1 := Lh (fun W => (Tryz.bits_Len64 (n : Int) W (by omega) (by omega)).mono fun e w' h => And.intro h.1 h.2.symm)
 rw [Int.toNat_natCast, hL] at C1
 have k3 : (0 : Int) ≤ (d : Int) := by omega
 have k4 : (0 : Int) ≤ (d : Int) - 1 := by omega
 rw [← hE] at C2
 have Q1 := Lh q1
 have Q2 := Lh q2
 have Q3 := Lh q3
 have Q4 := Lh q4
 have Q5 := Lh q5
 have Q6 := Lh q6
 have Q7 := Lh q7
 have Q8 := Lh q8
 have T1 := Lh t1
 have T2 := Lh t2
 clear t1 t2 hL hnb hE q1 q2 q3 q4 q5 q6 q7 q8
 go_enter Tryz.func190, Tryz.ntmps190
 go_wp2_with fail
 refine Sm (C1.out _) ?_
 go_wp2
 go_quiet (fail)
 have q1 := Q1.out
 have q2 := Q2.out
 have q3 := Q3.out
 have q4 := Q4.out
 have q5 := Q5.out
 have q6 := Q6.out
 have q7 := Q7.out
 have q8 := Q8.out
 have t1 := T1.out
 have t2 := T2.out
 go_wp2_with fail
 refine Sm (C2.out _) ?_
 go_wp2
 go_ret
 exact ⟨rfl, Ae (Below.refl _ _) _⟩
end
section
theorem Ua {n : Nat} (hn : n < 9223372036854775808) : n < 2 ^ Lib.bitLen n ∧ (Lib.bitLen n = 0 ∨ 2 ^ (Lib.bitLen n - 1) ≤ n) ∧ Lib.bitLen n ≤ 63 := by
 have h63 := Lib.bitLen_le n 63 (by omega) (by rw [show (2 : Nat) ^ 63 = 9223372036854775808 by decide]; exact hn)
 rcases Nat.eq_zero_or_pos n with h0 | h0
 ·rw [h0, show Lib.bitLen 0 = 0 by decide]
  exact ⟨by decide, Or.inl rfl, by omega⟩
 ·have h := Lib.bitLenAux_bounds 64 n (by omega) (by omega)
  exact ⟨h.2.2, Or.inr h.2.1, h63⟩
theorem N6 (n : Nat) (two : Int) (w : World) (hn : n < 9223372036854775808) (h1 : -1076 ≤ two) (h2 : two ≤ 6000) (hb : two = -1076 ∨ 2 ^ 60 ≤ n) :
  Ct 190 #[.int .u64 n, .int .i64 two] (.float .f64 (rnd (n * 2 ^ (two + 1074).toNat) (2 ^ (-(two + 1074)).toNat))) w := by
 obtain ⟨b1, b2, b3⟩ := Ua hn
 obtain ⟨L, hL⟩ : ∃ L, Lib.bitLen n = L := ⟨_, rfl⟩
 rw [hL] at b1 b2 b3
 have hL60 : two = -1076 ∨ 61 ≤ L := by
  rcases hb with h | h
  ·exact Or.inl h
  ·refine Or.inr ?_
   have := (Nat.pow_lt_pow_iff_right (a := 2) (by omega)).1 (Nat.lt_of_le_of_lt h b1)
   omega
 obtain ⟨d, hd⟩ : ∃ d : Nat, max ((L : Int) - 53) (-1074 - two) = (d : Int) := ⟨(max ((L : Int) - 53) (-1074 - two)).toNat, by omega⟩
 have hd2 : 2 ≤ d := by omega
 have hd3 : d ≤ 10 := by omega
 obtain ⟨D, hD⟩ : ∃ D : Nat, two + d + 1074 = (D : Int) := ⟨(two + d + 1074).toNat, by omega⟩
 obtain ⟨A, hA⟩ : ∃ A, (two + 1074).toNat = A := ⟨_, rfl⟩
 obtain ⟨B, hB⟩ : ∃ B, (-(two + 1074)).toNat = B := ⟨_, rfl⟩
 rw [hA, hB]
 obtain ⟨r1, r2, r3⟩ := Acl (n := n) (L := L) (drop := d) (A := A) (B := B) (D := D) b1 b2 (by omega) (by omega) (by omega)
 rw [r1]
 obtain ⟨E, hE⟩ : ∃ E, Cn n (2 ^ d) = E := ⟨_, rfl⟩
 rw [hE] at r2 r3 ⊢
 have C2 : Hid (∀ W, Cq 179 #[.float .f64 (floatOfInt .f64 (E : Int)), .int .i64 (two + d)] (.float .f64 (min (D * 4503599627370496 + E) 9218868437227405312)) W) :=
  Lh (fun W => Abi (D := D) r2 r3 (by omega) (by omega) W)
 obtain ⟨c, rfl⟩ : ∃ c, d = c + 1 := ⟨d - 1, by omega⟩
 have hP : 2 ^ (c + 1) = 2 * 2 ^ c := by rw [Nat.pow_succ, Nat.mul_comm]
 obtain ⟨H, hH⟩ : ∃ H, 2 ^ c = H := ⟨_, rfl⟩
 rw [hH] at hP
 have hH0 : 0 < H := by rw [← hH]; exact As c
 have hH9 : H ≤ 512 := by
  rw [← hH]
  have := Nat.pow_le_pow_right (n := 2) (by omega) (show c ≤ 9 by omega)
  omega
 obtain ⟨P, hPP⟩ : ∃ P, 2 ^ (c + 1) = P := ⟨_, rfl⟩
 rw [hPP] at hP
 have cast : ∀ k : Nat, ((2 : Int) ^ k) = ((2 ^ k : Nat) : Int) := fun k => by simp
 obtain ⟨q, hq⟩ : ∃ q, n / P = q := ⟨_, rfl⟩
 obtain ⟨r, hr⟩ : ∃ r, n % P = r := ⟨_, rfl⟩
 have hql : q ≤ n := by rw [← hq]; exact Nat.div_le_self _ _
 have hrl : r < P := by rw [← hr]; exact Nat.mod_lt _ (by omega)
 have q1 : (n : Int) / 2 ^ (c + 1) = (q : Int) := by rw [cast, hPP, ← hq]; exact (Int.natCast_ediv n P).symm
 have q2 : IntKind.u64.wrap (2 ^ (c + 1)) = (P : Int) := by rw [cast, hPP]; exact IntWalk.u64_in _ (by omega)
 have q3 : IntKind.u64.wrap ((P : Int) - 1) = (P : Int) - 1 := IntWalk.u64_in _ (by omega)
 have q4 : IntKind.u64.wrap (2 ^ (c + 1 - 1)) = (H : Int) := by rw [Nat.add_sub_cancel, cast, hH]; exact IntWalk.u64_in _ (by omega)
 have q5 : bits BinOp.and IntKind.u64 (n : Int) ((P : Int) - 1) = (r : Int) := by
  rw [show ((P : Int) - 1) = ((P - 1 : Nat) : Int) by omega, u64_and_nat _ _ (by omega) (by omega), ← hPP, Nat.and_two_pow_sub_one_eq_mod, hPP, hr]
 have q6 : bits BinOp.and IntKind.u64 (q : Int) 1 = ((q % 2 : Nat) : Int) := by
  have := u64_and_nat q 1 (by omega) (by omega)
  rw [show ((1 : Nat) : Int) = 1 from rfl] at this
  rw [this, show (1 : Nat) = 2 ^ 1 - 1 from rfl, Nat.and_two_pow_sub_one_eq_mod]
 have q7 : IntKind.u64.wrap ((q : Int) + 1) = (q : Int) + 1 := IntWalk.u64_in _ (by omega)
 have q8 : wrap64 (two + ((c + 1 : Nat) : Int)) = two + ((c + 1 : Nat) : Int) := by
  unfold wrap64; omega
 have k1 : IntKind.i64.wrap (-1074 - two) = -1074 - two := IntWalk.i64_in _ (by omega)
 have k2 : IntKind.i64.wrap ((L : Int) - 53) = (L : Int) - 53 := IntWalk.i64_in _ (by omega)
 have hEE : E = if H < r ∨ (r = H ∧ q % 2 = 1) then q + 1 else q := by
  rw [← hE, hPP, hP, Tl, ← hP, hq, hr]
 rcases Nat.lt_trichotomy r H with h | h | h
 ·rw [if_neg (by omega)] at hEE
  exact Sq n (c + 1) L q H P r (q % 2) E _ two _ w (by omega) hL (by omega) hd3 k1 k2 hd q1 q2 q3 q4 q5 q6 q7 q8 (decide_eq_false (by omega)) (by rw [beq_eq_false_iff_ne]; omega) (by rw [hEE]) C2
 ·subst h
  by_cases ho : q % 2 = 1
  ·rw [if_pos (Or.inr ⟨rfl, ho⟩)] at hEE
   exact U0 n (c + 1) L q r P (q % 2) E _ two _ w (by omega) hL (by omega) hd3 k1 k2 hd q1 q2 q3 q4 q5 q6 q7 q8 (by rw [ho]; rfl) (by rw [hEE]; rfl) C2
  ·rw [if_neg (by omega)] at hEE
   exact T0 n (c + 1) L q r P (q % 2) E _ two _ w (by omega) hL (by omega) hd3 k1 k2 hd q1 q2 q3 q4 q5 q6 q7 q8 (by rw [beq_eq_false_iff_ne]; omega) (by rw [hEE]) C2
 ·rw [if_pos (Or.inl h)] at hEE
  exact Uy n (c + 1) L q H P r (q % 2) E _ two _ w (by omega) hL (by omega) hd3 k1 k2 hd q1 q2 q3 q4 q5 q6 q7 q8 (decide_eq_true h) (by rw [hEE]; rfl) C2
theorem Mp {a b x y p q : Nat} (ha1 : 2 ^ p ≤ a) (ha2 : a < 2 ^ (p + 1)) (hb1 : 2 ^ q ≤ b) (hb2 : b < 2 ^ (q + 1)) (k : Nat) :
  (p + 1 + x ≤ k + q + y → a * 2 ^ x / (b * 2 ^ y) < 2 ^ k) ∧ (k + q + 1 + y ≤ p + x → 2 ^ k ≤ a * 2 ^ x / (b * 2 ^ y)) := by
 have hX := As x
 have hY := As y
 have hb : 0 < b := Nat.lt_of_lt_of_le (As q) hb1
 constructor
 ·intro h
  rw [Nat.div_lt_iff_lt_mul (Nat.mul_pos hb hY)]
  have h1 : a * 2 ^ x < 2 ^ (p + 1) * 2 ^ x := Nat.mul_lt_mul_of_pos_right ha2 hX
  have h2 : 2 ^ k * (2 ^ q * 2 ^ y) ≤ 2 ^ k * (b * 2 ^ y) := Nat.mul_le_mul_left _ (Nat.mul_le_mul_right _ hb1)
  have h3 : 2 ^ (p + 1) * 2 ^ x ≤ 2 ^ k * (2 ^ q * 2 ^ y) := by
   rw [← Nat.pow_add, ← Nat.pow_add, ← Nat.pow_add]
   exact Nat.pow_le_pow_right (by omega) (by omega)
  omega
 ·intro h
  rw [Nat.le_div_iff_mul_le (Nat.mul_pos hb hY)]
  have h1 : 2 ^ p * 2 ^ x ≤ a * 2 ^ x := Nat.mul_le_mul_right _ ha1
  have h2 : 2 ^ k * (b * 2 ^ y) ≤ 2 ^ k * (2 ^ (q + 1) * 2 ^ y) := Nat.mul_le_mul_left _ (Nat.mul_le_mul_right _ (Nat.le_of_lt hb2))
  have h3 : 2 ^ k * (2 ^ (q + 1) * 2 ^ y) ≤ 2 ^ p * 2 ^ x := by
   rw [← Nat.pow_add, ← Nat.pow_add, ← Nat.pow_add]
   exact Nat.pow_le_pow_right (by omega) (by omega)
  omega
def Ag9 (m : Nat) (ten : Int) (w : World) (e : Ending) (w' : World) : Prop := e = .returned (.float .f64 (Bu m ten)) ∧ Below w.heap.size w w'
theorem Me {w : World} {A : Option Addr} {n c m T B bt bb q nn F : Nat} {ten x1 x2 x3 last two : Int} {ex : Bool} (hA : NV w A n c m)
  (C1 : Hid (∀ W, NV W A n c m → Cp 186 #[.slice A n c, .int .i64 ten] W (NRet T W)))
  (C3 : Hid (∀ W A1 n1 c1, NV W A1 n1 c1 1 → Cp 186 #[.slice A1 n1 c1, .int .i64 (-ten)] W (NRet B W)))
  (C4 : Hid (∀ W A1 n1 c1, NV W A1 n1 c1 T → Cq 176 #[.slice A1 n1 c1] (.int .i64 (bt : Nat)) W))
  (C5 : Hid (∀ W A1 n1 c1, NV W A1 n1 c1 B → Cq 176 #[.slice A1 n1 c1] (.int .i64 (bb : Nat)) W))
  (C6 : Hid (∀ W A1 n1 c1 A2 n2 c2, NV W A1 n1 c1 T → NV W A2 n2 c2 B → Cp 188 #[.slice A1 n1 c1, .slice A2 n2 c2, .int .i64 two] W fun e w' => ∃ A3 n3 c3, e = .returned (.tuple #[.slice A3 n3 c3, .bool ex]) ∧ NV w' A3 n3 c3 q ∧ Below W.heap.size W w'))
  (C7 : Hid (∀ W A1 n1 c1, NV W A1 n1 c1 q → Cq 189 #[.slice A1 n1 c1] (.int .u64 q) W))
  (C8 : Hid (∀ W, Ct 190 #[.int .u64 nn, .int .i64 last] (.float .f64 F) W))
  (k1 : IntKind.i64.wrap (-ten) = -ten) (k2 : IntKind.i64.wrap ((bt : Int) - (bb : Int)) = x1) (k3 : IntKind.i64.wrap (x1 + ten) = x2) (k4 : IntKind.i64.wrap (x2 - 62) = x3) (hmax : max x3 (-1076) = last) (k5 : IntKind.i64.wrap (ten - last) = two)
  (hor : (ex = true ∧ nn = q) ∨ (ex = false ∧ bits BinOp.or IntKind.u64 (q : Int) 1 = (nn : Int))) :
  Ct 136 #[.slice A n c, .int .i64 ten] (.float .f64 F) w := by
 have C2 := Lh (fun W => nof 1 (by omega) W)
 have HA := Lh hA
 clear hA
 rcases hor with ⟨rfl, rfl⟩ | ⟨rfl, hor⟩
 all_goals
  go_enter Tryz.func136, Tryz.ntmps136
  go_wp2_with fail
  refine (C1.out _ HA.out).mono ?_
  rintro e w1 ⟨A1, n1, c1, rfl, g1, b1⟩
  have G1 := Lh g1
  have B1 := Lh b1
  clear g1 b1
  go_wp2_with fail
  refine (C2.out _).mono ?_
  rintro e w2 ⟨A2, n2, c2, rfl, g2, b2⟩
  have G2 := Lh g2
  have G1' := Lh (G1.out.step b2)
  have B2 := Lh (Aa B1.out b2)
  clear g2 b2
  go_wp2_with fail
  refine (C3.out _ _ _ _ G2.out).mono ?_
  rintro e w3 ⟨A3, n3, c3, rfl, g3, b3⟩
  have G3 := Lh g3
  have G1'' := Lh (G1'.out.step b3)
  have B3 := Lh (Aa B2.out b3)
  clear g3 b3
  go_wp2_with fail
  refine Sm (C4.out _ _ _ _ G1''.out) ?_
  go_wp2_with fail
  refine Sm (C5.out _ _ _ _ G3.out) ?_
  go_wp2_with fail
  refine (C6.out _ _ _ _ _ _ _ G1''.out G3.out).mono ?_
  rintro e w4 ⟨A4, n4, c4, rfl, g4, b4⟩
  have G4 := Lh g4
  have B4 := Lh (Aa B3.out b4)
  clear g4 b4
  go_wp2_with fail
  refine Sm (C7.out _ _ _ _ G4.out) ?_
  go_wp2_with fail
  refine Bm (C8.out _) fun w5 b5 => ?_
  have B5 := Lh (Aa B4.out b5)
  clear b5
  go_wp2
  go_ret
  exact ⟨rfl, B5.out⟩
end
section
theorem Aan {q s : Nat} (hq : q < 9223372036854775808) (hs : s ≤ 1) : q ||| s < 9223372036854775808 ∧ q ≤ q ||| s := by
 refine ⟨?_, Nat.left_le_or⟩
 have : q ||| s < 2 ^ 63 := Nat.or_lt_two_pow (by rw [show (2 : Nat) ^ 63 = 9223372036854775808 by decide]; exact hq) (by rw [show (2 : Nat) ^ 63 = 9223372036854775808 by decide]; omega)
 rw [show (2 : Nat) ^ 63 = 9223372036854775808 by decide] at this
 exact this
theorem Hg {w : World} {A : Option Addr} {n c m : Nat} (ten : Int) (hA : NV w A n c m) (hm : bln m ≤ 3300) (h0 : 0 < m) (ht1 : -1200 ≤ ten) (ht2 : ten ≤ 400) :
  Cp 136 #[.slice A n c, .int .i64 ten] w (Ag9 m ten w) := by
 have f1 := Fv ten.toNat
 have f2 := Fv (-ten).toNat
 have g1 := Gj m (5 ^ ten.toNat)
 have p1 : 0 < 5 ^ ten.toNat := Nat.pow_pos (by omega)
 have p2 : 0 < 5 ^ (-ten).toNat := Nat.pow_pos (by omega)
 have e1 : 1 * 5 ^ (-ten).toNat = 5 ^ (-ten).toNat := Nat.one_mul _
 have C1 := Lh (fun W (h : NV W A n c m) => E3 ten h (by omega) (by omega) (by omega))
 have C3 := Lh (fun W A1 n1 c1 (h : NV W A1 n1 c1 1) => E3 (-ten) h (by rw [show bln 1 = 1 by decide]; omega) (by omega) (by omega))
 rw [e1] at C3
 obtain ⟨T, hT⟩ : ∃ T, m * 5 ^ ten.toNat = T := ⟨_, rfl⟩
 obtain ⟨B, hB⟩ : ∃ B, 5 ^ (-ten).toNat = B := ⟨_, rfl⟩
 have hT0 : 0 < T := by rw [← hT]; exact Nat.mul_pos h0 p1
 rw [hT] at C1 g1
 rw [hB] at C3 f2 p2
 obtain ⟨u1, u2, u3⟩ := A9 hT0
 obtain ⟨v1, v2, v3⟩ := A9 p2
 have C4 := Lh (fun W A1 n1 c1 (h : NV W A1 n1 c1 T) => Ve h (by omega))
 have C5 := Lh (fun W A1 n1 c1 (h : NV W A1 n1 c1 B) => Ve h (by omega))
 have cr := fun (t : Int) (h1 : -8000 ≤ t) (h2 : t ≤ 8000) W A1 n1 c1 A2 n2 c2 (h : NV W A1 n1 c1 T) (g : NV W A2 n2 c2 B) => Km t h g (by omega) (by omega) p2 h1 h2
 obtain ⟨bt, hbt⟩ : ∃ bt, bln T = bt := ⟨_, rfl⟩
 obtain ⟨bb, hbb⟩ : ∃ bb, bln B = bb := ⟨_, rfl⟩
 rw [hbt] at C4 u1 u2 u3 g1
 rw [hbb] at C5 v1 v2 v3 f2
 obtain ⟨p, rfl⟩ : ∃ p, bt = p + 1 := ⟨bt - 1, by omega⟩
 obtain ⟨r, rfl⟩ : ∃ r, bb = r + 1 := ⟨bb - 1, by omega⟩
 rw [Nat.add_sub_cancel] at u1 v1
 obtain ⟨x1, hx1⟩ : ∃ x1, ((p + 1 : Nat) : Int) - ((r + 1 : Nat) : Int) = x1 := ⟨_, rfl⟩
 obtain ⟨x2, hx2⟩ : ∃ x2, x1 + ten = x2 := ⟨_, rfl⟩
 obtain ⟨x3, hx3⟩ : ∃ x3, x2 - 62 = x3 := ⟨_, rfl⟩
 obtain ⟨last, hlast⟩ : ∃ last, max x3 (-1076) = last := ⟨_, rfl⟩
 obtain ⟨two, htwo⟩ : ∃ two, ten - last = two := ⟨_, rfl⟩
 have C6 := cr two (by omega) (by omega)
 obtain ⟨q1, q2⟩ := Mp (x := two.toNat) (y := (-two).toNat) u1 u2 v1 v2 63
 have q3 := (Mp (x := two.toNat) (y := (-two).toNat) u1 u2 v1 v2 60).2
 have hql := q1 (by omega)
 have hqb : last = -1076 ∨ 2 ^ 60 ≤ T * 2 ^ two.toNat / (B * 2 ^ (-two).toNat) := by
  by_cases hh : last = -1076
  ·exact Or.inl hh
  ·exact Or.inr (q3 (by omega))
 obtain ⟨N, hN⟩ : ∃ N, T * 2 ^ two.toNat = N := ⟨_, rfl⟩
 obtain ⟨d, hd⟩ : ∃ d, B * 2 ^ (-two).toNat = d := ⟨_, rfl⟩
 have hd0 : 0 < d := by rw [← hd]; exact Nat.mul_pos p2 (As _)
 rw [hN, hd] at C6 hql hqb
 obtain ⟨q, hq⟩ : ∃ q, N / d = q := ⟨_, rfl⟩
 obtain ⟨t, ht⟩ : ∃ t, N % d = t := ⟨_, rfl⟩
 have hNd : N = q * d + t := by rw [← hq, ← ht, Nat.mul_comm]; exact (Nat.div_add_mod N d).symm
 have htd : t < d := by rw [← ht]; exact Nat.mod_lt _ hd0
 unfold Afs at C6
 rw [ht, hq] at C6
 rw [hq] at hql hqb
 rw [show (2 : Nat) ^ 63 = 9223372036854775808 by decide] at hql
 obtain ⟨s, hs⟩ : ∃ s, (if t = 0 then 0 else 1) = s := ⟨_, rfl⟩
 have hs1 : s ≤ 1 := by rw [← hs]; split <;> omega
 obtain ⟨o1, o2⟩ := Aan hql hs1
 obtain ⟨nn, hnn⟩ : ∃ nn, q ||| s = nn := ⟨_, rfl⟩
 have key := Zc (m := m) (N := N) (n := d) (q := q) (t := t) (s := s) (ten := ten) (last := last) (by rw [← hN, ← hT, htwo]) (by rw [← hd, ← hB, show last - ten = -two by omega]) hNd htd hs.symm hqb
 rw [hnn] at key o1 o2
 have C8 := fun W => N6 nn last W o1 (by omega) (by omega) (by
  rcases hqb with h | h
  ·exact Or.inl h
  ·exact Or.inr (Nat.le_trans h o2))
 rw [← key] at C8
 refine Me (q := q) (nn := nn) (two := two) (last := last) (x1 := x1) (x2 := x2) (x3 := x3) (ex := decide (t = 0)) hA C1 C3 C4 C5 (Lh C6)
  (Lh (fun W A1 n1 c1 h => Ch h (by omega))) (Lh C8) (IntWalk.i64_in _ (by omega)) (by rw [IntWalk.i64_in _ (by omega)]; exact hx1) (by rw [IntWalk.i64_in _ (by omega)]; exact hx2) (by rw [IntWalk.i64_in _ (by omega)]; exact hx3) hlast (by rw [IntWalk.i64_in _ (by omega)]; exact htwo) ?_
 by_cases h : t = 0
 ·refine Or.inl ⟨decide_eq_true h, ?_⟩
  rw [← hnn, ← hs, if_pos h, Nat.or_zero]
 ·refine Or.inr ⟨decide_eq_false h, ?_⟩
  have := E9 q 1 (by omega) (by omega)
  rw [show ((1 : Nat) : Int) = 1 from rfl] at this
  rw [this, ← hnn, ← hs, if_neg h]
end
section
theorem Hx {l : List Nat} (h : ∀ c ∈ l, Cm c = true) : ∀ c ∈ l, c < 256 := fun c hc => by
 have := Cc.1 (h c hc)
 omega
theorem Mo (l : List Nat) (w : World) (hd : ∀ c ∈ l, Cm c = true) (h0 : l ≠ []) (hl : l.length ≤ 801) : Cp 130 #[.string (Ab l), .int .i64 10] w (NOk (num 10 l) w) := by
 have hb := Aj (Hx hd)
 have h := Qc (Ab l) 10 w (by rw [Ag]; omega) (by omega) (by omega) (Vs (by rw [hb]; exact h0) (by rw [hb]; exact fun c hc => (Hm (hd c hc)).2))
 rw [Abm, hb] at h
 refine h.mono fun e w' x => NOk.of (B9 ?_) x
 have h1 := H6 hd
 have h2 := Ex (Nat.le_of_lt h1)
 have h3 := Wl l.length
 omega
theorem Vh {l : List Nat} (hd : ∀ c ∈ l, Cm c = true) (hl : l.length ≤ 801) : bln (num 10 l) ≤ 3300 := by
 have h2 := Ex (Nat.le_of_lt (H6 hd))
 have h3 := Wl l.length
 omega
theorem Tf (W F : List Nat) (X : Int) (w : World) (hW : ∀ c ∈ W, Cm c = true) (hF : ∀ c ∈ F, Cm c = true) (hs : W.length + F.length ≤ 4611686018427387903) (hX : -10995116277760 < X ∧ X < 10995116277760) :
  Ct 103 #[.agg #[.string (Ab W), .string (Ab F), .int .i64 X]] (.float .f64 (Bu (num 10 (W ++ F)) (X - F.length))) w := by
 obtain ⟨f, hf⟩ : ∃ f, W ++ F = f := ⟨_, rfl⟩
 have hd : ∀ c ∈ f, Cm c = true := by
  intro c hc
  rw [← hf] at hc
  rcases List.mem_append.1 hc with h | h
  ·exact hW c h
  ·exact hF c h
 have hfl : f.length = W.length + F.length := by rw [← hf, List.length_append]
 rw [hf]
 have hg : ∀ c ∈ ldz f, Cm c = true := fun c hc => hd c (Hj hc)
 have hh : ∀ c ∈ trz (ldz f), Cm c = true := fun c hc => hg c (Wb hc)
 have hgl : (ldz f).length ≤ f.length := (List.dropWhile_sublist _).length_le
 have htl := N8 (ldz f)
 have hcat : Ab W ++ Ab F = Ab f := by rw [Az, hf]
 have C1 : Hid (∀ V, Ct 126 #[.string (Ab W ++ Ab F), .string ⟨#[48]⟩] (.string (Ab (ldz f))) V) := Lh (fun V => by
  have := Vp (Ab f) V
  rw [Aj (Hx hd)] at this
  rw [hcat]
  exact this)
 have C2 : Hid (∀ V, Ct 135 #[.string (Ab (ldz f)), .string ⟨#[48]⟩] (.string (Ab (trz (ldz f)))) V) := Lh (fun V => by
  have := Vj (Ab (ldz f)) V (by rw [Ag]; omega)
  rw [Aj (Hx hg)] at this
  exact this)
 have z1 := Ag (ldz f)
 have z2 := Ag F
 have z3 := Ag (trz (ldz f))
 have z4 := Ag W
 obtain ⟨P, hP⟩ : ∃ P, ((ldz f).length : Int) + (X - F.length) = P := ⟨_, rfl⟩
 have k1 : IntKind.i64.wrap (((Ab (ldz f)).size : Int) - ((Ab F).size : Int)) = ((ldz f).length : Int) - F.length := by rw [z1, z2]; exact IntWalk.i64_in _ (by omega)
 have k2 : IntKind.i64.wrap (((ldz f).length : Int) - F.length + X) = P := by rw [IntWalk.i64_in _ (by omega)]; omega
 by_cases h0 : trz (ldz f) = []
 ·rw [Xj h0]
  exact Rk _ _ _ _ X _ P w (by omega) C1 C2 k1 k2 (by rw [h0, Lib.toList_data]; rfl)
 ·have t1 := (In h0).2
  by_cases h1 : P < -323
  ·rw [Z4 hd (by omega)]
   exact Us _ _ _ _ X _ P w (by omega) C1 C2 k1 k2 t1 (decide_eq_true h1)
  ·by_cases h2 : 309 < P
   ·rw [Xm hd h0 (by omega)]
    exact Ql _ _ _ _ X _ P w (by omega) C1 C2 k1 k2 t1 (decide_eq_false h1) (decide_eq_true h2)
   ·by_cases h3 : 800 < (trz (ldz f)).length
    ·rw [Wy hd h3 (by omega), show ((ldz f).length : Int) + (X - F.length) - 801 = P - 801 by omega]
     obtain ⟨l, hl⟩ : ∃ l, (trz (ldz f)).take 800 ++ [49] = l := ⟨_, rfl⟩
     have ll : l.length = 801 := by rw [← hl, List.length_append, List.length_take]; simp; omega
     have ld : ∀ c ∈ l, Cm c = true := by
      intro c hc
      rw [← hl] at hc
      rcases List.mem_append.1 hc with h | h
      ·exact hh c (List.mem_of_mem_take h)
      ·rw [List.mem_singleton.1 h]; rfl
     have lh : l.head? ≠ some 48 := by
      rw [← hl]
      have := K3 (Dw f)
      cases ht : trz (ldz f) with
      | nil => exact absurd ht h0
      | cons a b =>
       rw [show List.dropWhile (fun x => x == 48) f = ldz f from rfl, ht] at this
       exact this
     have l0 : l ≠ [] := fun e => by rw [e] at ll; simp at ll
     have lp : 0 < num 10 l := Nat.lt_of_lt_of_le (Aq _) (Kg ld l0 lh)
     have hstr : (Ab (trz (ldz f))).extract 0 800 ++ (⟨#[49]⟩ : ByteArray) = Ab l := by
      rw [Fp, Aj (Hx hh), ← hl, ← Az]
      rfl
     rw [hl]
     have t5 : (800 : Int) ≤ ((Ab (trz (ldz f))).size : Int) := by rw [z3]; omega
     have t4 : decide (800 < ((Ab (trz (ldz f))).size : Int)) = true := decide_eq_true (by rw [z3]; omega)
     have t6 : ((Ab (trz (ldz f))).extract 0 800).size = 800 := by
      rw [Fp, Aj (Hx hh), Ag, List.length_take]
      exact Nat.min_eq_left (by omega)
     have k3 : IntKind.i64.wrap (P - 801) = P - 801 := IntWalk.i64_in _ (by omega)
     have C3 : Hid (∀ V, Cp 130 #[.string ((Ab (trz (ldz f))).extract 0 800 ++ (⟨#[49]⟩ : ByteArray)), .int .i64 10] V (NOk (num 10 l) V)) := Lh (fun V => by
      rw [hstr]
      exact Mo l V ld l0 (by omega))
     have C4 : Hid (∀ V A n c, NV V A n c (num 10 l) → Ct 136 #[.slice A n c, .int .i64 (P - 801)] (.float .f64 (Bu (num 10 l) (P - 801))) V) := Lh (fun V A n c h => Hg (P - 801) h (Vh ld (by omega)) lp (by omega) (by omega))
     exact Q9 _ _ _ _ X _ P _ (num 10 l) _ w (by omega) C1 C2 k1 k2 t1 (decide_eq_false h1) (decide_eq_false h2) t4 t5 t6 k3 C3 C4
    ·rw [Kb, show ((ldz f).length : Int) + (X - F.length) - (trz (ldz f)).length = P - (trz (ldz f)).length by omega]
     have lp : 0 < num 10 (trz (ldz f)) := Nat.lt_of_lt_of_le (Aq _) (Kg hh h0 (K3 (Dw f)))
     have C3 : Hid (∀ V, Cp 130 #[.string (Ab (trz (ldz f))), .int .i64 10] V (NOk (num 10 (trz (ldz f))) V)) := Lh (fun V => Mo _ V hh h0 (by omega))
     obtain ⟨Z, hZ⟩ : ∃ Z, P - ((trz (ldz f)).length : Int) = Z := ⟨_, rfl⟩
     rw [hZ]
     have C4 : Hid (∀ V A n c, NV V A n c (num 10 (trz (ldz f))) → Ct 136 #[.slice A n c, .int .i64 Z] (.float .f64 (Bu (num 10 (trz (ldz f))) Z)) V) := Lh (fun V A n c h => Hg Z h (Vh hh (by omega)) lp (by omega) (by omega))
     have k3 : IntKind.i64.wrap (P - ((Ab (trz (ldz f))).size : Int)) = Z := by rw [z3, ← hZ]; exact IntWalk.i64_in _ (by omega)
     have t4 : decide (800 < ((Ab (trz (ldz f))).size : Int)) = false := decide_eq_false (by rw [z3]; omega)
     exact Ov _ _ _ _ X _ P Z (num 10 (trz (ldz f))) _ w (by omega) C1 C2 k1 k2 t1 (decide_eq_false h1) (decide_eq_false h2) t4 k3 C3 C4
theorem Um (l : List Nat) (w : World) (hs : l.length ≤ 4611686018427387903) :
  Ct 103 #[.agg #[.string (Ab (dW l)), .string (Ab (dF l)), .int .i64 (dX l)]] (.float .f64 (dV l)) w := by
 have h1 := Gi l
 have h2 : (dF l).length ≤ (Am l).length := by
  unfold dF
  split
  ·have := Gi (Am l).tail
   rw [List.length_tail] at this
   omega
  ·simp
 refine Tf (dW l) (dF l) (dX l) w (Gf l) ?_ (by unfold dW; omega) (Agn _)
 intro c hc
 unfold dF at hc
 split at hc
 ·exact Gf _ c hc
 ·simp at hc
end
section
theorem Afb (N : Nat) : fl N = Bu N 0 := by
 obtain ⟨K, hK, hd⟩ := Fj
 rw [Hy, Zq false (a := K) (b := 0) (by omega), hd, show (0 : Int).toNat = 0 from rfl, show (-(0 : Int)).toNat = 0 from rfl, Nat.pow_zero, Nat.mul_one, Hs]
theorem Ac2 {N : Nat} {D : Nat} (hD : D = 1024) (h : 2 ^ D ≤ N) : Bu N 0 = 9218868437227405312 := by
 obtain ⟨K, hK, hd⟩ := Fj
 rw [hd]
 refine Jk (Aq _) ?_
 obtain ⟨E, hE⟩ : ∃ E : Nat, E = 2046 := ⟨_, rfl⟩
 have e1 := Ap 4503599627370496 E (by omega) (by omega)
 rw [show E * 4503599627370496 + 4503599627370496 = 9218868437227405312 by omega] at e1
 rw [e1, show (0 : Int).toNat = 0 from rfl, show (-(0 : Int)).toNat = 0 from rfl, Nat.pow_zero, Nat.mul_one, Nat.mul_one]
 have h2 : 4503599627370496 * 2 ^ E = 2 ^ D * 2 ^ K := by
  rw [show (4503599627370496 : Nat) = 2 ^ 52 from rfl, ← Nat.pow_add, ← Nat.pow_add]
  exact congrArg (fun k => 2 ^ k) (show 52 + E = D + K by omega)
 rw [h2]
 exact Nat.mul_le_mul_right _ h
theorem Aao {c : Nat} (h : dgt c = 0) : c = 48 := by
 unfold dgt at h
 split at h
 ·omega
 ·split at h
  ·omega
  ·split at h <;> omega
theorem Aaz {r : Nat} {g : List Nat} (h0 : g ≠ []) (hh : g.head? ≠ some 48) : r ^ (g.length - 1) ≤ num r g := by
 cases g with
 | nil => exact absurd rfl h0
 | cons c l =>
  have h1 : dgt c ≠ 0 := fun e => hh (by rw [Aao e]; rfl)
  rw [Fe]
  have h3 : 1 * r ^ l.length ≤ dgt c * r ^ l.length := Nat.mul_le_mul_right _ (by omega)
  simp only [List.length_cons, Nat.add_sub_cancel]
  omega
theorem Uj (s g : ByteArray) (r : Nat) (w : World)
  (C1 : Hid (∀ W, Ct 126 #[.string s, .string ⟨#[48]⟩] (.string g) W)) (t1 : decide (1024 < (g.size : Int)) = true) :
  Ct 98 #[.string s, .int .i64 r] (.float .f64 9218868437227405312) w := by
 have C2 := Lh (fun W => F4 W)
 go_enter Tryz.func98, Tryz.ntmps98
 go_wp2_with fail
 refine Bm (C1.out _) fun w1 b1 => ?_
 go_wp2_with fail
 refine Sm (C2.out _) ?_
 go_wp2
 go_ret
 exact ⟨rfl, b1⟩
theorem Tz (s g : ByteArray) (r N : Nat) (w : World)
  (C1 : Hid (∀ W, Ct 126 #[.string s, .string ⟨#[48]⟩] (.string g) W)) (t1 : decide (1024 < (g.size : Int)) = false)
  (C2 : Hid (∀ W, Cp 130 #[.string s, .int .i64 r] W (NOk N W)))
  (C3 : Hid (∀ W A n c, NV W A n c N → Ct 131 #[.slice A n c] (.float .f64 (fl N)) W)) :
  Ct 98 #[.string s, .int .i64 r] (.float .f64 (fl N)) w := by
 go_enter Tryz.func98, Tryz.ntmps98
 go_wp2_with fail
 refine Bm (C1.out _) fun w1 b1 => ?_
 have B1 := Lh b1
 clear b1
 go_wp2_with fail
 refine (C2.out _).mono ?_
 rintro e w2 ⟨A, n, c, rfl, g2, b2⟩
 have G2 := Lh g2
 have B2 := Lh (Aa B1.out b2)
 clear g2 b2
 go_wp2_with fail
 refine Bm (C3.out _ _ _ _ G2.out) fun w3 b3 => ?_
 have B3 := Lh (Aa B2.out b3)
 clear b3
 go_wp2
 go_ret
 exact ⟨rfl, B3.out⟩
theorem Yr (r : Nat) (l : List Nat) : Ip r (ldz l) = Ip r l := by unfold Ip ldz; rw [Eg]
theorem Sp (l : List Nat) (r : Nat) (w : World) (h2 : 2 ≤ r) (h36 : r ≤ 36) (h0 : l ≠ []) (hd : ∀ c ∈ l, dgt c < r) (hb : ∀ c ∈ l, c < 256) (hs : l.length ≤ 4611686018427387903) :
  Ct 98 #[.string (Ab l), .int .i64 r] (.float .f64 (Ip r l)) w := by
 have C1 : Hid (∀ V, Ct 126 #[.string (Ab l), .string ⟨#[48]⟩] (.string (Ab (ldz l))) V) := Lh (fun V => by
  have := Vp (Ab l) V
  rw [Aj hb] at this
  exact this)
 have z1 := Ag (ldz l)
 by_cases h : 1024 < (ldz l).length
 ·have key : Ip r l = 9218868437227405312 := by
   rw [← Yr]
   obtain ⟨D, hD⟩ : ∃ D : Nat, D = 1024 := ⟨_, rfl⟩
   refine Ac2 hD ?_
   refine Nat.le_trans ?_ (Aaz (r := r) (fun e => by rw [e] at h; simp at h) (Dw l))
   exact Nat.le_trans (Nat.pow_le_pow_left h2 D) (Nat.pow_le_pow_right (by omega) (by omega))
  rw [key]
  exact Uj _ _ r w C1 (decide_eq_true (by rw [z1]; omega))
 ·have hdl : ∀ c ∈ ldz l, dgt c < r := fun c hc => hd c (Hj hc)
  have hnum : num r (ldz l) = num r l := Eg r l
  have hbn : bln (num r l) ≤ 30000 := by
   rw [← hnum]
   have a1 := Ex (Nat.le_of_lt (Z9 hdl))
   have a2 := Oh r (ldz l).length
   have a3 : bln r ≤ 6 := E7 (by omega)
   have a4 : bln r * (ldz l).length ≤ 6 * 1024 := Nat.mul_le_mul a3 (by omega)
   omega
  have C2 : Hid (∀ V, Cp 130 #[.string (Ab l), .int .i64 r] V (NOk (num r l) V)) := Lh (fun V => by
   have hbl := Aj hb
   have h := Qc (Ab l) r V (by rw [Ag]; exact hs) h2 h36 (Vs (by rw [hbl]; exact h0) (by rw [hbl]; exact hd))
   rw [Abm, hbl] at h
   exact h.mono fun e w' x => NOk.of (B9 hbn) x)
  have C3 : Hid (∀ V A n c, NV V A n c (num r l) → Ct 131 #[.slice A n c] (.float .f64 (fl (num r l))) V) := Lh (fun V A n c g => by
   have a1 := Bw hbn
   rw [g.len] at a1
   have := U7 A n c (wds (num r l)) V g.len g.cap (by omega) g.row
   rw [Ao] at this
   exact this)
  have key : Ip r l = fl (num r l) := (Afb _).symm
  rw [key]
  exact Tz _ _ r _ w C1 (decide_eq_false (by rw [z1]; omega)) C2 C3
end
section
theorem Yw (l : List Nat) (w : World) (hl : ∀ c ∈ l, c < 128) (hs : l.length ≤ 140737488355328) :
  Ct 97 #[.string (Ab l)] (.string (Ab (l.map Er))) w := by
 have hb : ∀ c ∈ l, c < 256 := fun c hc => Nat.lt_trans (hl c hc) (by omega)
 have h := Tryz.strings_ToLower_ascii (Ab l) w (by rw [Ag]; exact hs) (Agc (by rw [Aj hb]; exact hl))
 rw [Ab2 (by rw [Aj hb]; exact hl), Aj hb] at h
 exact h
theorem Zt {l : List Nat} (hl : ∀ c ∈ l, c < 128) : ∀ c ∈ l.map Er, c < 256 := by
 intro c hc
 obtain ⟨d, hd, rfl⟩ := List.mem_map.1 hc
 have := hl d hd
 unfold Er
 split <;> omega
theorem Aey (l : List Nat) (r : Nat) (w : World) (hr : r ≤ 36) (hl : ∀ c ∈ l, c < 128) (hs : l.length ≤ 140737488355328) :
  Ct 96 #[.string (Ab (l.map Er)), .int .i64 r] (.tuple #[.string (Ab ((l.takeWhile (dgq r)).map Er)), .string (Ab ((l.dropWhile (dgq r)).map Er))]) w := by
 have h := Dh (Ab (l.map Er)) r w hr (by rw [Ag, List.length_map]; omega)
 rw [Aj (Zt hl), Abe, Abr] at h
 exact h
theorem Abd (r : Nat) (l : List Nat) : Ip r (l.map Er) = Ip r l := by unfold Ip; rw [Vm]
theorem Acn (r : Nat) (l : List Nat) : ∀ c ∈ l.takeWhile (dgq r), dgt c < r := by
 induction l with
 | nil => intro c hc; simp at hc
 | cons d t ih =>
  intro c hc
  rw [List.takeWhile_cons] at hc
  cases hd : dgq r d
  ·rw [hd] at hc; simp at hc
  ·rw [hd] at hc
   simp only [if_true] at hc
   rcases List.mem_cons.1 hc with rfl | h
   ·exact of_decide_eq_true hd
   ·exact ih c h
theorem J4 (p : Nat → Bool) : ∀ l : List Nat, l.dropWhile p = [] ↔ l.all p = true
 | [] => by simp
 | c :: l => by
  by_cases h : p c = true
  ·rw [List.dropWhile_cons_of_pos h, List.all_cons, h, Bool.true_and]
   exact J4 p l
  ·rw [List.dropWhile_cons_of_neg h, List.all_cons]
   simp [h]
theorem Pt (p : Nat → Bool) : ∀ l : List Nat, l.all p = true → l.takeWhile p = l
 | [], _ => rfl
 | c :: l, h => by
  rw [List.all_cons, Bool.and_eq_true] at h
  rw [List.takeWhile_cons_of_pos h.1, Pt p l h.2]
theorem T8 : dgq 16 = Abo := rfl
theorem Ae6 (s u : ByteArray) (w : World) (C1 : Hid (∀ W, Cq 95 #[.string s] (.tuple #[.string u, .bool false]) W)) :
  Ct 72 #[.string s] (.tuple #[.float .f64 0, .bool false]) w := by
 go_enter Tryz.func72, Tryz.ntmps72
 go_wp2_with fail
 refine Sm (C1.out _) ?_
 go_wp2
 go_ret2
 exact ⟨rfl, Below.refl _ _⟩
theorem P5 (s u v f q : ByteArray) (w : World) (C1 : Hid (∀ W, Cq 95 #[.string s] (.tuple #[.string u, .bool true]) W))
  (C2 : Hid (∀ W, Ct 97 #[.string u] (.string v) W))
  (C3 : Hid (∀ W, Ct 96 #[.string v, .int .i64 16] (.tuple #[.string f, .string q]) W))
  (t : f.toList.isEmpty = true ∨ (f.toList.isEmpty = false ∧ q.toList.isEmpty = false)) :
  Ct 72 #[.string s] (.tuple #[.float .f64 0, .bool false]) w := by
 rcases t with t1 | ⟨t1, t2⟩
 all_goals
  go_enter Tryz.func72, Tryz.ntmps72
  go_wp2_with fail
  refine Sm (C1.out _) ?_
  go_wp2_with fail
  refine Bm (C2.out _) fun w1 b1 => ?_
  go_wp2_with fail
  refine Bm (C3.out _) fun w2 b2 => ?_
  have B2 := Lh (Aa b1 b2)
  clear b1 b2
  go_wp2
  go_ret2
  exact ⟨rfl, B2.out⟩
theorem Aaw (s u v f q : ByteArray) (F : Nat) (w : World) (C1 : Hid (∀ W, Cq 95 #[.string s] (.tuple #[.string u, .bool true]) W))
  (C2 : Hid (∀ W, Ct 97 #[.string u] (.string v) W))
  (C3 : Hid (∀ W, Ct 96 #[.string v, .int .i64 16] (.tuple #[.string f, .string q]) W))
  (C4 : Hid (∀ W, Ct 98 #[.string f, .int .i64 16] (.float .f64 F) W))
  (t1 : f.toList.isEmpty = false) (t2 : q.toList.isEmpty = true) :
  Ct 72 #[.string s] (.tuple #[.float .f64 F, .bool true]) w := by
 go_enter Tryz.func72, Tryz.ntmps72
 go_wp2_with fail
 refine Sm (C1.out _) ?_
 go_wp2_with fail
 refine Bm (C2.out _) fun w1 b1 => ?_
 go_wp2_with fail
 refine Bm (C3.out _) fun w2 b2 => ?_
 have B2 := Lh (Aa b1 b2)
 clear b1 b2
 go_wp2_with fail
 refine Bm (C4.out _) fun w3 b3 => ?_
 have B3 := Lh (Aa B2.out b3)
 clear b3
 go_wp2
 go_ret2
 exact ⟨rfl, B3.out⟩
end
section
theorem Ir (l : List Nat) (w : World) (hl : ∀ c ∈ l, c < 128) (hs : l.length ≤ 140737488355328) :
  Ct 72 #[.string (Ab l)] (.tuple #[.float .f64 (if hxB l = true then Ip 16 (l.drop 2) else 0 : Nat), .bool (hxB l)]) w := by
 have hb : ∀ c ∈ l, c < 256 := fun c hc => Nat.lt_trans (hl c hc) (by omega)
 have C1 : ∀ W, Cq 95 #[.string (Ab l)] (.tuple #[.string (Ab (if hxA l = true then l.drop 2 else l)), .bool (hxA l)]) W := by
  intro W
  have := Ru (Ab l) W
  rw [Aj hb] at this
  exact this
 obtain ⟨u, hu⟩ : ∃ u, l.drop 2 = u := ⟨_, rfl⟩
 have hul : ∀ c ∈ u, c < 128 := fun c hc => hl c (by rw [← hu] at hc; exact List.mem_of_mem_drop hc)
 have hus : u.length ≤ 140737488355328 := by rw [← hu, List.length_drop]; omega
 have hx : hxB l = (hxA l && !u.isEmpty && u.all Abo) := by unfold hxB; rw [hu]
 rw [hu]
 rw [hu] at C1
 cases ha : hxA l
 ·rw [ha] at C1 hx
  rw [hx, Bool.false_and, Bool.false_and, if_neg (by simp)]
  exact Ae6 _ _ w (Lh C1)
 ·rw [ha, if_pos rfl] at C1
  rw [ha, Bool.true_and] at hx
  have C2 := Lh (fun W => Yw u W hul hus)
  have C3 := Lh (fun W => Aey u 16 W (by omega) hul hus)
  have ne : ∀ R : List Nat, R ≠ [] → (Ab R).toList.isEmpty = false := fun R hR => (In hR).2
  have em : (Ab []).toList.isEmpty = true := by rw [Lib.toList_data]; rfl
  by_cases h1 : u.takeWhile (dgq 16) = []
  ·have hn : hxB l = false := by
    rw [hx]
    cases u with
    | nil => rfl
    | cons c t =>
     have : dgq 16 c = false := by
      cases h : dgq 16 c
      ·rfl
      ·rw [List.takeWhile_cons_of_pos h] at h1; cases h1
     show (true && (Abo c && t.all Abo)) = false
     rw [← T8, this]
     rfl
   rw [hn, if_neg (by simp)]
   exact P5 _ _ _ _ _ w (Lh C1) C2 C3 (Or.inl (by rw [h1]; exact em))
  ·by_cases h2 : u.dropWhile (dgq 16) = []
   ·have h3 := (J4 _ _).1 h2
    have h4 := Pt _ _ h3
    have hu0 : u ≠ [] := fun e => h1 (by rw [e]; rfl)
    have hn : hxB l = true := by
     rw [hx, ← T8, h3, Bool.and_true]
     cases u with
     | nil => exact absurd rfl hu0
     | cons => rfl
    rw [hn, if_pos rfl]
    rw [h4, h2] at C3
    have hd : ∀ c ∈ u, dgt c < 16 := by
     have := Acn 16 u
     rw [h4] at this
     exact this
    have C4 : ∀ W, Ct 98 #[.string (Ab (u.map Er)), .int .i64 16] (.float .f64 (Ip 16 u)) W := by
     intro W
     have := Sp (u.map Er) 16 W (by omega) (by omega) (by simpa using hu0) (by
      intro c hc
      obtain ⟨d, hd2, rfl⟩ := List.mem_map.1 hc
      rw [O2]
      exact hd d hd2) (Zt hul) (by rw [List.length_map]; omega)
     rw [Abd] at this
     exact this
    exact Aaw _ _ _ _ _ _ w (Lh C1) C2 C3 (Lh C4) (ne _ (by simpa using hu0)) em
   ·have hn : hxB l = false := by
     rw [hx, ← T8]
     cases h3 : u.all (dgq 16)
     ·rw [Bool.and_false]
     ·exact absurd ((J4 _ _).2 h3) h2
    rw [hn, if_neg (by simp)]
    exact P5 _ _ _ _ _ w (Lh C1) C2 C3 (Or.inr ⟨ne _ (by simpa using h1), ne _ (by simpa using h2)⟩)
theorem Abc (x : Nat) (hx : x < 18446744073709551616) : bits BinOp.and IntKind.u64 (x : Int) 9223372036854775808 = ((if Bj x = true then 9223372036854775808 else 0 : Nat) : Int) := by
 show IntKind.u64.wrap ((BitVec.ofInt 64 (x : Int) &&& BitVec.ofInt 64 9223372036854775808).toNat : Int) = _
 have e1 : (BitVec.ofInt 64 (x : Int)) = BitVec.ofNat 64 x := by rw [BitVec.ofInt_natCast]
 have e2 : (BitVec.ofInt 64 9223372036854775808) = BitVec.ofNat 64 (2 ^ 63) := by decide
 rw [e1, e2, BitVec.toNat_and, BitVec.toNat_ofNat, BitVec.toNat_ofNat, Nat.mod_eq_of_lt (by omega : x < 2 ^ 64), Nat.mod_eq_of_lt (by omega : 2 ^ 63 < 2 ^ 64), IntKind.wrap_u64]
 have h2 : x &&& 2 ^ 63 = x / 2 ^ 63 % 2 * 2 ^ 63 := by
  apply Nat.eq_of_testBit_eq
  intro i
  rw [Nat.testBit_and, Nat.testBit_two_pow]
  by_cases h : 63 = i
  ·subst h
   rw [decide_eq_true rfl, Bool.and_true, Nat.testBit_mul_two_pow, Nat.testBit_eq_decide_div_mod_eq]
   simp
  ·rw [decide_eq_false h, Bool.and_false, Nat.testBit_mul_two_pow]
   by_cases hi : 63 ≤ i
   ·have : x / 2 ^ 63 % 2 < 2 ^ (i - 63) := Nat.lt_of_lt_of_le (Nat.mod_lt _ (by omega)) (by have := Nat.pow_le_pow_right (n := 2) (by omega) (show 1 ≤ i - 63 by omega); omega)
    rw [Nat.testBit_lt_two_pow this]; simp
   ·simp [hi]
 rw [h2]
 unfold Bj
 have h4 : x / 2 ^ 63 % 2 = 0 ∨ x / 2 ^ 63 % 2 = 1 := by omega
 rw [show (9223372036854775808 : Nat) = 2 ^ 63 from rfl]
 rcases h4 with h4 | h4 <;> rw [h4] <;> simp
theorem Ad5 (s : Bool) {r : Nat} (hr : r < 9223372036854775808) : bits BinOp.or IntKind.u64 (r : Int) ((if s = true then 9223372036854775808 else 0 : Nat) : Int) = ((Ieee.double.word s r : Nat) : Int) := by
 cases s
 ·rw [if_neg (by simp), E9 r 0 (by omega) (by omega), Nat.or_zero]; rfl
 ·rw [if_pos rfl, E9 r 9223372036854775808 (by omega) (by omega)]
  have := Nat.two_pow_add_eq_or_of_lt (i := 63) (b := r) hr 1
  rw [Nat.or_comm, show (9223372036854775808 : Nat) = 2 ^ 63 * 1 from rfl, ← this]
  rfl
theorem Mi (f x : Nat) (w : World) (hf : f < 18446744073709551616) (hx : x < 18446744073709551616) : Cq 101 #[.float .f64 f, .float .f64 x] (.float .f64 (Ieee.double.word (Bj x) (Aw f))) w := by
 have h1 := Av f w
 have h2 := Av x w
 have h3 := Pn f hf
 have h4 := Abc x hx
 have hr : Aw f < 9223372036854775808 := Nat.mod_lt _ (by omega)
 have h5 := Ad5 (Bj x) hr
 have h6 := Bl (Ieee.double.word (Bj x) (Aw f)) w
 obtain ⟨a, ha⟩ : ∃ a, Aw f = a := ⟨_, rfl⟩
 obtain ⟨b, hb⟩ : ∃ b : Nat, (if Bj x = true then 9223372036854775808 else 0 : Nat) = b := ⟨_, rfl⟩
 rw [ha] at h3 h5 h6 ⊢
 rw [hb] at h4 h5
 obtain ⟨c, hc⟩ : ∃ c, Ieee.double.word (Bj x) a = c := ⟨_, rfl⟩
 rw [hc] at h5 h6 ⊢
 clear hf hx hr ha hb hc
 go_enter Tryz.func101, Tryz.ntmps101
 go_wp2
 go_ret
 exact ⟨rfl, rfl⟩
theorem Afg (b : Bool) (x : Nat) : Ieee.double.word b x = sgW b x := by cases b <;> rfl
theorem Ad4 (b : Bool) : Bj (sgF b) = b := by cases b <;> rfl
theorem Gt (x : Nat) (b : Bool) (w : World) (hx : x < 9223372036854775808) :
  Cq 101 #[.float .f64 x, .float .f64 (sgF b)] (.float .f64 (sgW b x)) w := by
 have h := Mi x (sgF b) w (by omega) (by cases b <;> decide)
 rw [Ad4, show Aw x = x from Nat.mod_eq_of_lt hx, Afg] at h
 exact h
end
section
theorem Sk (s u v : ByteArray) (b : Bool) (w : World)
  (C1 : Hid (∀ W, Cq 99 #[.string s] (.tuple #[.float .f64 (sgF b : Nat), .string u]) W))
  (C2 : Hid (∀ W, Cq 100 #[.string u, .string ⟨#[73, 110, 102, 105, 110, 105, 116, 121]⟩] (.tuple #[.string v, .bool true]) W)) :
  Ct 73 #[.string s] (.tuple #[.float .f64 (sgW b 9218868437227405312), .string v, .bool true]) w := by
 have C3 := Lh (fun W => F4 W)
 have C4 := Lh (fun W => Gt 9218868437227405312 b W (by omega))
 go_enter Tryz.func73, Tryz.ntmps73
 go_wp2_with fail
 refine Sm (C1.out _) ?_
 go_wp2_with fail
 refine Sm (C2.out _) ?_
 go_wp2_with fail
 refine Sm (C3.out _) ?_
 go_wp2_with fail
 refine Sm (C4.out _) ?_
 go_wp2
 refine bodyPost_ret (Ax rfl _ _ _) rfl ?_
 exact ⟨rfl, Below.refl _ _⟩
theorem Pd (s u v p q r : ByteArray) (X : Int) (F : Nat) (b : Bool) (w : World) (hF : F < 9223372036854775808)
  (C1 : Hid (∀ W, Cq 99 #[.string s] (.tuple #[.float .f64 (sgF b : Nat), .string u]) W))
  (C2 : Hid (∀ W, Cq 100 #[.string u, .string ⟨#[73, 110, 102, 105, 110, 105, 116, 121]⟩] (.tuple #[.string v, .bool false]) W))
  (C3 : Hid (∀ W, Ct 102 #[.string u] (.tuple #[.agg #[.string p, .string q, .int .i64 X], .string r, .bool true]) W))
  (C4 : Hid (∀ W, Ct 103 #[.agg #[.string p, .string q, .int .i64 X]] (.float .f64 F) W)) :
  Ct 73 #[.string s] (.tuple #[.float .f64 (sgW b F), .string r, .bool true]) w := by
 have C5 := Lh (fun W => Gt F b W hF)
 clear hF
 go_enter Tryz.func73, Tryz.ntmps73
 go_wp2_with fail
 refine Sm (C1.out _) ?_
 go_wp2_with fail
 refine Sm (C2.out _) ?_
 go_wp2_with fail
 refine Bm (C3.out _) fun w1 b1 => ?_
 have B1 := Lh (Ec (.cells #[.string p, .string q, .int .i64 X] 102) b1)
 clear b1
 go_wp2_with fail
 refine Bm (C4.out _) fun w2 b2 => ?_
 have B2 := Lh (Aa B1.out b2)
 clear b2
 go_wp2_with fail
 refine Sm (C5.out _) ?_
 go_wp2
 refine bodyPost_ret (Ax rfl _ _ _) rfl ?_
 exact ⟨rfl, B2.out⟩
theorem N9 (s u v : ByteArray) (b : Bool) (w : World)
  (C1 : Hid (∀ W, Cq 99 #[.string s] (.tuple #[.float .f64 (sgF b : Nat), .string u]) W))
  (C2 : Hid (∀ W, Cq 100 #[.string u, .string ⟨#[73, 110, 102, 105, 110, 105, 116, 121]⟩] (.tuple #[.string v, .bool false]) W))
  (C3 : Hid (∀ W, Ct 102 #[.string u] (.tuple #[.agg #[.string ⟨#[]⟩, .string ⟨#[]⟩, .int .i64 0], .string ⟨#[]⟩, .bool false]) W)) :
  Ct 73 #[.string s] (.tuple #[.float .f64 0, .string ⟨#[]⟩, .bool false]) w := by
 go_enter Tryz.func73, Tryz.ntmps73
 go_wp2_with fail
 refine Sm (C1.out _) ?_
 go_wp2_with fail
 refine Sm (C2.out _) ?_
 go_wp2_with fail
 refine Bm (C3.out _) fun w1 b1 => ?_
 have B1 := Lh (Ec (.cells #[.string ⟨#[]⟩, .string ⟨#[]⟩, .int .i64 0] 102) b1)
 clear b1
 go_wp2
 refine bodyPost_ret (Ax rfl _ _ _) rfl ?_
 exact ⟨rfl, B1.out⟩
theorem Adi (N : Nat) (e : Int) : Bu N e ≤ 9218868437227405312 := by unfold Bu rnd; exact Nat.min_le_right _ _
def nbB (l : List Nat) : Bool := Lt (Cj l) || dB (Cj l)
def nbV (l : List Nat) : Nat := if Lt (Cj l) = true then sgW (Ia l) 9218868437227405312 else if dB (Cj l) = true then sgW (Ia l) (dV (Cj l)) else 0
def nbR (l : List Nat) : List Nat := if Lt (Cj l) = true then (Cj l).drop 8 else if dB (Cj l) = true then dR (Cj l) else []
theorem O6 (l : List Nat) (w : World) (hl : ∀ c ∈ l, c < 256) (hs : l.length ≤ 140737488355328) :
  Ct 73 #[.string (Ab l)] (.tuple #[.float .f64 (nbV l), .string (Ab (nbR l)), .bool (nbB l)]) w := by
 have C1 : ∀ W, Cq 99 #[.string (Ab l)] (.tuple #[.float .f64 (sgF (Ia l) : Nat), .string (Ab (Cj l))]) W := by
  intro W
  have := Fg (Ab l) W
  rw [Aj hl] at this
  exact this
 obtain ⟨u, hu⟩ : ∃ u, Cj l = u := ⟨_, rfl⟩
 have hul : ∀ c ∈ u, c < 256 := fun c hc => hl c (Sa c (by rw [hu]; exact hc))
 have hus : u.length ≤ 140737488355328 := by rw [← hu]; exact Nat.le_trans (Pl l) hs
 rw [hu] at C1
 have C2 := fun W => K4 (Ab u) ⟨#[73, 110, 102, 105, 110, 105, 116, 121]⟩ W
 rw [Aj hul, show bl ⟨#[73, 110, 102, 105, 110, 105, 116, 121]⟩ = infL from rfl, show (⟨#[73, 110, 102, 105, 110, 105, 116, 121]⟩ : ByteArray).size = 8 from rfl] at C2
 have e1 : infL.isPrefixOf u = Lt u := rfl
 rw [e1] at C2
 unfold nbV nbR nbB
 rw [hu]
 cases hi : Lt u
 ·rw [hi, if_neg (by simp)] at C2
  simp only [Bool.false_eq_true, if_false, Bool.false_or]
  cases hd : dB u
  ·simp only [Bool.false_eq_true, if_false]
   refine N9 _ _ _ _ w (Lh C1) (Lh C2) (Lh (fun W => ?_))
   have := K8 (Ab u) W (by rw [Ag]; omega) (by rw [Aj hul]; exact hd)
   exact this
  ·simp only [if_true]
   refine Pd _ _ _ _ _ _ _ _ _ w (by have := Adi (num 10 (dW u ++ dF u)) (dX u - (dF u).length); unfold dV; omega) (Lh C1) (Lh C2) (Lh (fun W => ?_)) (Lh (fun W => Um u W (by omega)))
   have := Jd (Ab u) W (by rw [Ag]; omega) (by rw [Aj hul]; exact hd)
   rw [Aj hul] at this
   exact this
 ·rw [hi, if_pos rfl] at C2
  simp only [if_true, Bool.true_or]
  exact Sk _ _ _ _ w (Lh C1) (Lh C2)
end
section
theorem Zi {B : Nat} {l : List UInt8} {w w' : World} (h : Bld B l w) (hb : Below w.heap.size w w') : Bld B l w' := by
 have hg : w.grownBy w' none := ⟨hb.os, hb.tape, hb.output, hb.size, fun k hk _ => hb.block k hk⟩
 have key : ∀ p, Lib.BuilderAtF 79 5 B B p (Lib.byteCells l) w → Lib.BuilderAtF 79 5 B B p (Lib.byteCells l) w' := by
  intro p hA
  have hlt := Lib.BuilderAtF.lt hA
  obtain ⟨hB, v, hbk, hown, hne⟩ := hA
  exact ⟨hB, v, by rw [hb.block B hlt]; exact hbk, hown.kept hg (by cases v.ownBlock <;> simp), hne⟩
 rcases h with h | h
 ·exact .inl (key _ h)
 ·exact .inr (key _ h)
def nr0 (u : Nat) : Nat := if 127 < u then 0 else u
theorem Aga (u : Nat) : nr0 u < 128 := by unfold nr0; split <;> omega
theorem J2 {w w' : World} {R B n : Nat} {f : Nat → Value} (h : w.rowIs R 68 n f) (ho : Lib.OthersKept 5 (some B) w w') (hR : R ≠ B) : w'.rowIs R 68 n f := by
 obtain ⟨c, hb, hn, hc⟩ := h
 refine ⟨c, ho R _ hb (by simpa using hR) (fun c' fz e => ?_), hn, hc⟩
 injection e with _ e2 _
 exact absurd e2 (by decide)
theorem Uu (l : List UInt8) (u : Nat) (hu : u < 256) : Lib.byteCells l ++ [Value.int .u8 (u : Int)] = Lib.byteCells (l ++ [UInt8.ofNat u]) := by
 rw [Lib.byteCells_append]
 simp [Lib.byteCells]
 omega
theorem O7 (s : ByteArray) (w : World) (hs : s.size ≤ 140737488355328) :
  Ct 70 #[.string s] (.string (Ab (nrw 0 (us s)))) w := by
 have hl := Lf s
 have hs63 : s.size ≤ maxLen := by unfold maxLen; omega
 have hm : ((ln s : Nat) : Int) ≤ 70368744177664 := by omega
 have H63 := Lh hs63
 have C1 := Lh (fun W => Hk s W H63.out)
 have C2 := Lh (fun W => Xg s W hs)
 have HS := Lh (show ln s ≤ 70368744177664 by omega)
 have hg : Cp 80 #[.pointer (some ⟨w.heap.size, 0, none⟩), .int .i64 (ln s : Nat)] (w.alloc (.cells #[.pointer none, .slice none 0 0] 79)) fun e w' => e = .returned (.tuple #[]) ∧ (Lib.BuilderAt 79 5 w.heap.size w.heap.size (.pointer (some ⟨w.heap.size, 0, none⟩)) [] w' ∧ Below w.heap.size (w.alloc (.cells #[.pointer none, .slice none 0 0] 79)) w') :=
  Tryz.Builder_Grow_fresh w.heap.size w.heap.size (ln s) _ (Nat.le_refl _) (M3 w _) (by simp) (by omega)
 have HG := Lh hg
 clear hl hs hs63 hg
 go_enter Tryz.func70, Tryz.ntmps70
 go_wp2_with fail
 refine Sm (C1.out _) ?_
 go_wp2_with fail
 refine HG.out.mono ?_
 rintro e w1 ⟨rfl, hb1, bl1⟩
 have hbl : Below w.heap.size w w1 := ((Below.refl w.heap.size w).alloc (Nat.le_refl _) _).trans bl1
 have I1 := Lh (show Bld w.heap.size [] w1 from Lib.IsBuilderF.of (.inr hb1))
 have B1 := Lh hbl
 clear hb1 bl1 hbl
 go_wp2_with fail
 refine (C2.out _).mono ?_
 rintro e w2 ⟨rfl, hr2, b2⟩
 have R2 := Lh hr2
 have hlt1 := Aal I1.out
 have I2 := Lh (Zi I1.out b2)
 have B2 := Lh (Aa B1.out b2)
 have HR := Lh (show w1.heap.size ≠ w.heap.size by omega)
 obtain ⟨R, hR⟩ : ∃ R, w1.heap.size = R := ⟨_, rfl⟩
 rw [hR] at R2 HR ⊢
 clear hr2 b2 hlt1 hR
 go_wp2
 go_loopw [12] (fun i wr => ∃ k : Nat, i = .int .i64 k ∧ k ≤ ln s ∧ Hid (Bld w.heap.size ((((us s).take k).map nr0).map UInt8.ofNat) wr) ∧ Hid (wr.rowIs R 68 (ln s) (fun j => .int .u16 (un s j : Nat))) ∧ Hid (Below w.heap.size w wr)) (fun i _ => ln s - (intOf i).toNat)
 case atStart => exact ⟨0, rfl, Nat.zero_le _, I2, R2, B2⟩
 case round =>
  obtain ⟨k, rfl, hk, I3, R3, B3⟩ := hrel
  by_cases hlt : k < ln s
  ·have hcell : wr.cell? ⟨R, k, none⟩ = some (.int .u16 (un s k : Nat)) := R3.out.cell hlt
   have hul := Ahf s k
   have HST := Lh (Nn s k hlt)
   obtain ⟨u, hu⟩ : ∃ u, un s k = u := ⟨_, rfl⟩
   rw [hu] at hcell hul HST
   have hc1 := Aga u
   have hlen : (Lib.byteCells ((((us s).take k).map nr0).map UInt8.ofNat)).length + 1 ≤ 140737488355328 := by
    rw [Lib.byteCells_length, List.length_map, List.length_map, List.length_take]
    have := HS.out
    omega
   have C4 := Lh (fun c : Int => Tryz.Builder_WriteByte_k w.heap.size w.heap.size _ c wr I3.out hlen B3.out.size)
   have KEY := Lh (show ∀ w', Lib.BuilderAtF 79 5 w.heap.size w.heap.size (.pointer (some ⟨w.heap.size, 0, none⟩)) (Lib.byteCells ((((us s).take k).map nr0).map UInt8.ofNat) ++ [.int .u8 (nr0 u : Nat)]) w' → Bld w.heap.size ((((us s).take (k + 1)).map nr0).map UInt8.ofNat) w' from fun w' h => by
    rw [Uu _ _ (by omega)] at h
    rw [HST.out, List.map_append, List.map_append]
    exact Or.inr h)
   have a1 : (0 : Int) ≤ (k : Int) := by omega
   have a2 : (k : Int) < (ln s : Int) := by omega
   clear hlen
   by_cases hb : 127 < u
   ·have e0 : nr0 u = 0 := if_pos hb
    rw [e0] at KEY
    have t1 : decide ((127 : Int) < (u : Int)) = true := decide_eq_true (by omega)
    clear hu hul hc1 hb e0
    go_wp2_with fail
    refine (C4.out 0).mono ?_
    rintro e w3 ⟨rfl, hI, hb3, ho3⟩
    have I4 := Lh (KEY.out _ hI)
    have R4 := Lh (J2 R3.out ho3 HR.out)
    have B4 := Lh (B3.out.trans hb3)
    clear hI hb3 ho3
    go_wp2
    exact ⟨⟨k + 1, by go_num, by omega, I4, R4, B4⟩, by simp [intOf]; omega⟩
   ·have e0 : nr0 u = u := if_neg hb
    rw [e0] at KEY
    have t1 : decide ((127 : Int) < (u : Int)) = false := decide_eq_false (by omega)
    have k1 : IntKind.u8.wrap (u : Int) = (u : Int) := IntWalk.u8_in _ (by omega)
    clear hu hul hc1 hb e0
    go_wp2_with fail
    refine (C4.out _).mono ?_
    rintro e w3 ⟨rfl, hI, hb3, ho3⟩
    have I4 := Lh (KEY.out _ hI)
    have R4 := Lh (J2 R3.out ho3 HR.out)
    have B4 := Lh (B3.out.trans hb3)
    clear hI hb3 ho3
    go_wp2
    exact ⟨⟨k + 1, by go_num, by omega, I4, R4, B4⟩, by simp [intOf]; omega⟩
  ·obtain ⟨T, hT⟩ : ∃ T, (((us s).take k).map nr0).map UInt8.ofNat = T := ⟨_, rfl⟩
   have I5 := I3.out
   rw [hT] at I5
   have hS := Lh (Tryz.Builder_String_any_k w.heap.size w.heap.size T wr I5 B3.out.size)
   have HZ := Lh (show (⟨T.toArray⟩ : ByteArray) = Ab (nrw 0 (us s)) from by
    rw [← hT, show (us s).take k = us s by rw [show k = ln s by omega]; exact Rf s]
    rfl)
   clear hT I5 I3
   go_wp2_with (go_at_call 82; refine hS.out.mono ?_; rintro e w2 ⟨rfl, _, hb2, _⟩)
   go_ret
   exact ⟨by rw [← HZ.out]; rfl, B3.out.trans hb2⟩
end
section
theorem Ab7 (w : World) : Cq 74 #[] (.float .f64 Ae5) w := by
 have h1 : (callFunc 69 #[.int .u64 9221120237041090560]).run Tryz.prog w = .ok (.value (.float .f64 9221120237041090560)) w := Bl 9221120237041090560 w
 go_enter Tryz.func74, Tryz.ntmps74
 go_wp2
 go_ret
 exact ⟨rfl, rfl⟩
theorem M6 {u : List Nat} (h : Lt u = true) : u = infL ++ u.drop 8 := by
 unfold Lt at h
 obtain ⟨t, ht⟩ := List.isPrefixOf_iff_prefix.1 h
 rw [← ht, show (infL ++ t).drop 8 = t from rfl]
theorem Aer {u : List Nat} (h : Lt u = true) : dB u = false := by
 rw [M6 h]
 rfl
theorem Wd {u : List Nat} : (Lt u = true ∧ u.drop 8 = []) ↔ u = infL := by
 constructor
 ·rintro ⟨h1, h2⟩
  have := M6 h1
  rw [h2, List.append_nil] at this
  exact this
 ·intro h; rw [h]; exact ⟨by decide, by decide⟩
theorem Aez (l : List Nat) : Wv l = if l = [] then 0 else if hxB l = true then Ip 16 (l.drop 2) else if nbB l = true ∧ nbR l = [] then nbV l else Ae5 := by
 unfold Wv
 by_cases h0 : l = []
 ·rw [if_pos h0, if_pos h0]
 ·rw [if_neg h0, if_neg h0]
  by_cases h1 : hxB l = true
  ·rw [if_pos h1, if_pos h1]
  ·rw [if_neg h1, if_neg h1]
   unfold nbB nbR nbV
   cases hi : Lt (Cj l)
   ·have hn : ¬ Cj l = infL := fun e => by rw [e] at hi; revert hi; decide
    rw [if_neg hn]
    simp only [Bool.false_or, Bool.false_eq_true, if_false]
    cases hd : dB (Cj l)
    ·simp
    ·simp
   ·have hd := Aer hi
    simp only [Bool.true_or, if_true, true_and, hd, Bool.false_eq_true, false_and, if_false]
    by_cases he : (Cj l).drop 8 = []
    ·rw [if_pos (Wd.1 ⟨hi, he⟩), if_pos he]
    ·rw [if_neg (fun e => he (Wd.2 e).2), if_neg he]
theorem Ac9 (s : ByteArray) : (E4 s).size ≤ s.size := by
 unfold E4 slS
 split
 ·rw [ByteArray.size_extract]; omega
 ·exact Nat.zero_le _
theorem Afj (z : Nat) (l : List Nat) : (nrw z l).length = l.length := by unfold nrw; rw [List.length_map]
theorem Ach {s : ByteArray} (h : s.size ≤ 140737488355328) : (nrw 0 (us s)).length ≤ 140737488355328 := by
 rw [Afj, Is]
 have := Lf s
 omega
theorem Agu : (Ab []).toList.isEmpty = true := by rw [Lib.toList_data]; rfl
theorem Adn (l : List Nat) : (Ab l).toList.isEmpty = decide (l = []) := by
 by_cases h : l = []
 ·rw [h, Agu]; rfl
 ·rw [(In h).2, decide_eq_false h]
theorem Nr (s t l r : ByteArray) (H F : Nat) (c1 c2 c3 c4 : Bool) (w : World)
  (C1 : Hid (∀ W, Cp 71 #[.string s] W fun e w' => e = .returned (.string t) ∧ ∃ n, w' = W.drewN n))
  (C2 : Hid (∀ W, Ct 70 #[.string t] (.string l) W))
  (C3 : Hid (∀ W, Ct 72 #[.string l] (.tuple #[.float .f64 H, .bool c2]) W))
  (C4 : Hid (∀ W, Ct 73 #[.string l] (.tuple #[.float .f64 F, .string r, .bool c3]) W))
  (t1 : l.toList.isEmpty = c1) (t2 : r.toList.isEmpty = c4) :
  Ct 50 #[.string s] (.float .f64 (if c1 = true then 0 else if c2 = true then H else if c3 = true ∧ c4 = true then F else Ae5 : Nat)) w := by
 have C5 := Lh (fun W => Ab7 W)
 cases c1
 ·cases c2
  ·cases c3
   ·simp only [Bool.false_eq_true, if_false, false_and]
    go_enter Tryz.func50, Tryz.ntmps50
    go_wp2_with fail
    refine Dm (C1.out _) fun n => ?_
    go_wp2_with fail
    refine Bm (C2.out _) fun w1 b1 => ?_
    have B1 := Lh (Ae (Below.refl w.heap.size w) n |>.trans b1)
    clear b1
    go_wp2_with fail
    refine Bm (C3.out _) fun w2 b2 => ?_
    have B2 := Lh (Aa B1.out b2)
    clear b2
    go_wp2_with fail
    refine Bm (C4.out _) fun w3 b3 => ?_
    have B3 := Lh (Aa B2.out b3)
    clear b3
    go_wp2_with fail
    refine Sm (C5.out _) ?_
    go_wp2
    go_ret
    exact ⟨rfl, B3.out⟩
   ·cases c4
    ·simp only [Bool.false_eq_true, if_false, and_false]
     go_enter Tryz.func50, Tryz.ntmps50
     go_wp2_with fail
     refine Dm (C1.out _) fun n => ?_
     go_wp2_with fail
     refine Bm (C2.out _) fun w1 b1 => ?_
     have B1 := Lh (Ae (Below.refl w.heap.size w) n |>.trans b1)
     clear b1
     go_wp2_with fail
     refine Bm (C3.out _) fun w2 b2 => ?_
     have B2 := Lh (Aa B1.out b2)
     clear b2
     go_wp2_with fail
     refine Bm (C4.out _) fun w3 b3 => ?_
     have B3 := Lh (Aa B2.out b3)
     clear b3
     go_wp2_with fail
     refine Sm (C5.out _) ?_
     go_wp2
     go_ret
     exact ⟨rfl, B3.out⟩
    ·simp only [Bool.false_eq_true, if_false, and_self, if_true]
     go_enter Tryz.func50, Tryz.ntmps50
     go_wp2_with fail
     refine Dm (C1.out _) fun n => ?_
     go_wp2_with fail
     refine Bm (C2.out _) fun w1 b1 => ?_
     have B1 := Lh (Ae (Below.refl w.heap.size w) n |>.trans b1)
     clear b1
     go_wp2_with fail
     refine Bm (C3.out _) fun w2 b2 => ?_
     have B2 := Lh (Aa B1.out b2)
     clear b2
     go_wp2_with fail
     refine Bm (C4.out _) fun w3 b3 => ?_
     have B3 := Lh (Aa B2.out b3)
     clear b3
     go_wp2
     go_ret
     exact ⟨rfl, B3.out⟩
  ·simp only [Bool.false_eq_true, if_false, if_true]
   go_enter Tryz.func50, Tryz.ntmps50
   go_wp2_with fail
   refine Dm (C1.out _) fun n => ?_
   go_wp2_with fail
   refine Bm (C2.out _) fun w1 b1 => ?_
   have B1 := Lh (Ae (Below.refl w.heap.size w) n |>.trans b1)
   clear b1
   go_wp2_with fail
   refine Bm (C3.out _) fun w2 b2 => ?_
   have B2 := Lh (Aa B1.out b2)
   clear b2
   go_wp2
   go_ret
   exact ⟨rfl, B2.out⟩
 ·simp only [if_true]
  go_enter Tryz.func50, Tryz.ntmps50
  go_wp2_with fail
  refine Dm (C1.out _) fun n => ?_
  go_wp2_with fail
  refine Bm (C2.out _) fun w1 b1 => ?_
  have B1 := Lh (Ae (Below.refl w.heap.size w) n |>.trans b1)
  clear b1
  go_wp2
  go_ret
  exact ⟨rfl, B1.out⟩
theorem Qw (s : ByteArray) (w : World) (hs : s.size ≤ 140737488355328) :
  Ct 50 #[.string s] (.float .f64 (Wv (nrw 0 (us (E4 s))))) w := by
 have ht := Ac9 s
 have hl := Ags (z := 0) (by omega) (us (E4 s))
 have hln := Ach (s := E4 s) (by omega)
 obtain ⟨l, hll⟩ : ∃ l, nrw 0 (us (E4 s)) = l := ⟨_, rfl⟩
 have C2 := fun W => O7 (E4 s) W (by omega)
 rw [hll] at C2 hl hln ⊢
 have h := Nr s (E4 s) (Ab l) (Ab (nbR l)) _ _ (decide (l = [])) (hxB l) (nbB l) (decide (nbR l = [])) w (Lh (fun W => Ack s W (by unfold maxLen; omega))) (Lh C2)
  (Lh (fun W => Ir l W hl hln)) (Lh (fun W => O6 l W (fun c hc => Nat.lt_trans (hl c hc) (by omega)) hln)) (Adn l) (Adn _)
 refine h.mono fun e w' x => ⟨?_, x.2⟩
 rw [x.1, Aez]
 simp only [decide_eq_true_eq]
 cases h1 : hxB l
 ·simp only [Bool.false_eq_true, if_false]
 ·simp only [if_true]
end
section
theorem TxQ.bd {x : Nat} {L : List Nat} (h : TxQ x L) : (∀ c ∈ L, c < 256) ∧ L.length ≤ 2000 := by
 have hs : (∀ c ∈ sgx x, c < 256) ∧ (sgx x).length ≤ 1 := by
  unfold sgx
  split <;> simp
 rcases h with ⟨h1, rfl⟩ | ⟨h1, h2, rfl⟩ | ⟨h1, h2, l, h3, rfl⟩
 ·exact ⟨by simp, by simp⟩
 ·refine ⟨?_, by rw [List.length_append]; have : infL.length = 8 := rfl; omega⟩
  intro c hc
  rw [List.mem_append] at hc
  rcases hc with hc | hc
  ·exact hs.1 c hc
  ·exact (by decide : ∀ c ∈ infL, c < 256) c hc
 ·obtain ⟨l1, l2⟩ := PlQ.bd (J5 h1 h2) h3
  refine ⟨?_, by rw [List.length_append]; omega⟩
  intro c hc
  rw [List.mem_append] at hc
  rcases hc with hc | hc
  ·exact hs.1 c hc
  ·exact l1 c hc
end
section
theorem Xl (b : Bool) (w : World) : Ct 14 #[.bool b] (Ay (Tc b)) w := by
 go_enter Tryz.func14, Tryz.ntmps14
 go_wp2_with (refine vlS rfl rfl w.heap.size 2 b 0 ⟨#[]⟩ 0 rfl rfl (heap_alloc_last w _) ?_; rw [World.setRow_alloc_new])
 refine vlR rfl rfl (heap_alloc_last w _) rfl rfl ⟨rfl, Ai _ _⟩
theorem Qe (o : Int) (w : World) : Ct 20 #[.int .i64 o] (Ay (T4 (max o 0))) w := by
 by_cases h : o < 0
 ·have e1 : max o 0 = 0 := by omega
  rw [e1]
  clear e1
  go_enter Tryz.func20, Tryz.ntmps20
  go_wp2_with (refine vlS rfl rfl w.heap.size 5 false 0 ⟨#[]⟩ 0 rfl rfl (heap_alloc_last w _) ?_; rw [World.setRow_alloc_new])
  refine vlR rfl rfl (heap_alloc_last w _) rfl rfl ⟨rfl, Ai _ _⟩
 ·have e1 : max o 0 = o := by omega
  rw [e1]
  clear e1
  go_enter Tryz.func20, Tryz.ntmps20
  go_wp2_with (refine vlS rfl rfl w.heap.size 5 false 0 ⟨#[]⟩ o rfl rfl (heap_alloc_last w _) ?_; rw [World.setRow_alloc_new])
  refine vlR rfl rfl (heap_alloc_last w _) rfl rfl ⟨rfl, Ai _ _⟩
theorem Sf (s : ByteArray) (w : World) (hs : s.size ≤ maxLen) : Ct 18 #[.string s] (Ay (Fm (wh s))) w := by
 have hw : wh s = s.extract 0 (s.size - s.size % 2) := by
  unfold wh ln
  congr 1
  omega
 have k3 : (s.size : Int) ≤ 9223372036854775807 := by unfold maxLen at hs; omega
 rw [hw]
 clear hs hw
 go_enter Tryz.func18, Tryz.ntmps18
 go_wp2_with (refine vlS rfl rfl w.heap.size 4 false 0 (s.extract 0 (s.size - s.size % 2)) 0 rfl rfl (heap_alloc_last w _) ?_; rw [World.setRow_alloc_new])
 refine vlR rfl rfl (heap_alloc_last w _) rfl rfl ⟨rfl, Ai _ _⟩
theorem Wj (L : List Nat) (w : World) (hL : (L.all fun c => decide (c < 256)) = true) (hl : L.length ≤ 100000) : Ct 43 #[.string (Ab L)] (.string (wdS L)) w :=
 W9 L w (fun c hc => by simpa using List.all_eq_true.1 hL c hc) hl
theorem Js (L : List Nat) (w : World) (hL : (L.all fun c => decide (c < 256)) = true) (hl : L.length ≤ 100000) : Ct 52 #[.string (Ab L)] (.string (wdS L)) w :=
 En L w (fun c hc => by simpa using List.all_eq_true.1 hL c hc) hl
def Xs (v : Val) : Int := if An v = true then 0 else 1
end
section
theorem Ae2 (x y t : Nat) : Bh ((Question.nanBits .f64 x y).cut t) = true ∧ (Question.nanBits .f64 x y).cut t < 18446744073709551616 := by
 show Bh (t % 2 * 2 ^ 63 + 0x7ff0000000000000 + 1 + t / 2 % (2 ^ 52 - 1)) = true ∧ t % 2 * 2 ^ 63 + 0x7ff0000000000000 + 1 + t / 2 % (2 ^ 52 - 1) < _
 have h1 : t / 2 % (2 ^ 52 - 1) < 2 ^ 52 - 1 := Nat.mod_lt _ (by omega)
 have h2 : t % 2 < 2 := Nat.mod_lt _ (by omega)
 obtain ⟨a, ha⟩ : ∃ a, t / 2 % (2 ^ 52 - 1) = a := ⟨_, rfl⟩
 obtain ⟨b, hb⟩ : ∃ b, t % 2 = b := ⟨_, rfl⟩
 rw [ha] at h1 ⊢
 rw [hb] at h2 ⊢
 unfold Bh Aw
 refine ⟨decide_eq_true ?_, ?_⟩ <;> omega
theorem Afa {x : Nat} (h : Bh x = true) : cn x = 9221120237041090560 := by unfold cn; rw [if_pos h]
def Ae7 (x y : Nat) : Nat := match Ieee.double.add x y with
 | some r => cn r
 | none => 9221120237041090560
theorem Acw (x y : Nat) (w : World) (h : Ieee.double.add x y = none) : ∃ r, (∀ t, (binOp .add t (.float .f64 x) (.float .f64 y)).run Tryz.prog w = .ok (.float .f64 r) (w.drewN 1)) ∧ Bh r = true ∧ r < 18446744073709551616 := by
 have h2 : FloatKind.f64.format.add x y = none := h
 have hf : (Question.nanBits .f64 x y).forced = false := rfl
 exact ⟨(Question.nanBits .f64 x y).cut (w.tape w.drawn (.nanBits .f64 x y)), fun t => by simp [binOp, Op.floatArith, h2, hf]; rfl, Ae2 _ _ _⟩
theorem Ab8 (x y : Nat) (w : World) : ∃ r n, (∀ t, (binOp .add t (.float .f64 x) (.float .f64 y)).run Tryz.prog w = .ok (.float .f64 r) (w.drewN n)) ∧ cn r = Ae7 x y := by
 unfold Ae7
 cases h : Ieee.double.add x y with
 | some r => exact ⟨r, 0, fun t => run_float_arith w .add t .f64 x y r h, rfl⟩
 | none =>
  obtain ⟨r, h1, h2, _⟩ := Acw x y w h
  exact ⟨r, 1, h1, Afa h2⟩
end
section
attribute [local go_sem] stF
def vZ : Val := ⟨0, false, 0, ⟨#[]⟩, 0⟩
theorem Bv : (#[.int .i64 0, .bool false, .float .f64 0, .string ⟨#[]⟩, .int .i64 0] : Array Value) = Af vZ := rfl
theorem St (v : Val) (w : World) : Ct 10 #[Ay v] (.int .i64 (if Bc v = true then 0 else 1)) w := by
 have C1 := fun W => Ez v W
 obtain ⟨M, hM⟩ : ∃ b, Bc v = b := ⟨_, rfl⟩
 rw [hM] at C1 ⊢
 clear hM
 have C1 := Lh C1
 unfold Ay at C1 ⊢
 cases M
 ·skip
  go_enter Tryz.func10, Tryz.ntmps10
  go_wp2_with fail
  refine Bm (C1.out _) fun w2 b2 => ?_
  go_wp2
  go_ret
  exact ⟨rfl, Aa (Ai _ _) b2⟩
 ·skip
  go_enter Tryz.func10, Tryz.ntmps10
  go_wp2_with fail
  refine Bm (C1.out _) fun w2 b2 => ?_
  go_wp2
  go_ret
  exact ⟨rfl, Aa (Ai _ _) b2⟩
end
section
noncomputable def Agw (x y : Val) : Ending :=
 if (An x && An y) = true then
  (if (x.vk == 4 || y.vk == 4) = true then .returned (.tuple #[Ay (Fm (wh (Dg x ++ Dg y))), .int .i64 0]) else .returned (.tuple #[Ay (Gm (Ae7 (Bs x) (Bs y))), .int .i64 0]))
 else .returned (.tuple #[Ay vZ, .int .i64 1])
structure T3 (w W : World) (x y : Val) : Prop where
 k : BlkV W w.heap.size x
 k2 : BlkV W (w.heap.size + 1) y
 kr : BlkV W (w.heap.size + 2) vZ
 l : w.heap.size + 2 < W.heap.size
 b : Below w.heap.size w W
theorem T3.new {w W1 W2 W3 : World} {x y : Val} (h : w.alloc (.cells (Af x) 24) = W1) (g : W1.alloc (.cells (Af y) 24) = W2) (f : W2.alloc (.cells (Af vZ) 24) = W3) : T3 w W3 x y := by
 have a := T2.new h g
 obtain ⟨_, _, c⟩ := Es h
 obtain ⟨_, _, c2⟩ := Es g
 obtain ⟨a3, b3, c3⟩ := Es f
 rw [c2, c] at a3
 exact ⟨a.k.below b3 (by omega), a.k2.below b3 (by omega), a3, by omega, Aa a.b b3⟩
theorem T3.step {w W W' : World} {x y : Val} (h : T3 w W x y) (hb : Below W.heap.size W W') : T3 w W' x y :=
 ⟨h.k.below hb (by have := h.l; omega), h.k2.below hb (by have := h.l; omega), h.kr.below hb h.l, Nat.lt_of_lt_of_le h.l hb.size, Aa h.b hb⟩
theorem T3.drewN {w W : World} {x y : Val} (h : T3 w W x y) (n : Nat) : T3 w (W.drewN n) x y := ⟨h.k, h.k2, h.kr, h.l, Ae h.b n⟩
theorem T3.cs {w W : World} {x y : Val} (h : T3 w W x y) : W.cell? ⟨w.heap.size, 0, none⟩ = some (.int .i64 x.vk) ∧ W.cell? ⟨w.heap.size, 1, none⟩ = some (.bool x.vb) ∧ W.cell? ⟨w.heap.size, 2, none⟩ = some (.float .f64 x.vn) ∧ W.cell? ⟨w.heap.size, 3, none⟩ = some (.string x.vs) ∧ W.cell? ⟨w.heap.size, 4, none⟩ = some (.int .i64 x.vo) ∧
  W.cell? ⟨w.heap.size + 1, 0, none⟩ = some (.int .i64 y.vk) ∧ W.cell? ⟨w.heap.size + 1, 1, none⟩ = some (.bool y.vb) ∧ W.cell? ⟨w.heap.size + 1, 2, none⟩ = some (.float .f64 y.vn) ∧ W.cell? ⟨w.heap.size + 1, 3, none⟩ = some (.string y.vs) ∧ W.cell? ⟨w.heap.size + 1, 4, none⟩ = some (.int .i64 y.vo) :=
 ⟨h.k.cell rfl, h.k.cell rfl, h.k.cell rfl, h.k.cell rfl, h.k.cell rfl, h.k2.cell rfl, h.k2.cell rfl, h.k2.cell rfl, h.k2.cell rfl, h.k2.cell rfl⟩
theorem T3.row {w W : World} {x y : Val} (h : T3 w W x y) (c : Array Value) : (W.setRow (w.heap.size + 2) c).heap[w.heap.size + 2]? = some (.cells c 24 (0, 0)) ∧ Below w.heap.size w (W.setRow (w.heap.size + 2) c) :=
 ⟨setRow_heap _ _ _ _ _ _ h.kr, D8 h.b (by omega) _⟩
theorem E2 {x : Val} (h : Bc x = true) (hs : x.vs.size ≤ 140737488355328) : (Dg x).size ≤ 140737488355328 := by
 rcases Dx h with rfl | rfl | ⟨b, rfl⟩ | ⟨n, _, rfl⟩ | ⟨s, _, rfl⟩ | ⟨o, _, rfl⟩
 ·show wUnd.size ≤ _; decide
 ·show wNul.size ≤ _; decide
 ·cases b
  ·show wFal.size ≤ _; decide
  ·show wTru.size ≤ _; decide
 ·show (txt n).size ≤ _
  unfold txt
  have := (Classical.choose_spec (Le n)).bd.2
  rw [Lib.size_eq]
  show (bL (Classical.choose (Le n))).length ≤ _
  rw [Gl]
  omega
 ·exact hs
 ·show (⟨#[]⟩ : ByteArray).size ≤ _; decide
end
section
theorem Pb (w : World) : Cq 49 #[] (.float .f64 9221120237041090560) w := by
 have h2 : (callFunc 69 #[.int .u64 9221120237041090560]).run Tryz.prog w = .ok (.value (.float .f64 9221120237041090560)) w := Bl 9221120237041090560 w
 go_enter Tryz.func49, Tryz.ntmps49
 go_wp2
 go_ret
 exact ⟨rfl, rfl⟩
theorem Na (x : Nat) (w : World) : Cq 45 #[.float .f64 x] (.float .f64 (cn x)) w := by
 have C1 := Lh (fun W => Bn x W)
 have C2 := Lh (fun W => Pb W)
 unfold cn
 cases e1 : Bh x
 ·rw [e1] at C1
  rw [if_neg (by simp)]
  clear e1 C2
  go_enter Tryz.func45, Tryz.ntmps45
  go_wp2_with fail
  refine Sm (C1.out _) ?_
  go_wp2
  go_ret
  exact ⟨rfl, rfl⟩
 ·rw [e1] at C1
  rw [if_pos rfl]
  clear e1
  go_enter Tryz.func45, Tryz.ntmps45
  go_wp2_with fail
  refine Sm (C1.out _) ?_
  go_wp2_with fail
  refine Sm (C2.out _) ?_
  go_wp2
  go_ret
  exact ⟨rfl, rfl⟩
theorem Mr (b : Bool) (w : World) : Ct 13 #[.bool b] (Ay (Tc b)) w := by
 go_enter Tryz.func13, Tryz.ntmps13
 go_wp2_with (refine vlS rfl rfl w.heap.size 2 b 0 ⟨#[]⟩ 0 rfl rfl (heap_alloc_last w _) ?_; rw [World.setRow_alloc_new])
 refine vlR rfl rfl (heap_alloc_last w _) rfl rfl ⟨rfl, Ai _ _⟩
theorem Fr (x : Nat) (w : World) : Ct 15 #[.float .f64 x] (Ay (Gm (cn x))) w := by
 have C1 := Lh (fun W => Na x W)
 obtain ⟨n, hn⟩ : ∃ n, cn x = n := ⟨_, rfl⟩
 rw [hn] at C1 ⊢
 clear hn
 go_enter Tryz.func15, Tryz.ntmps15
 go_wp2_with fail
 refine Sm (C1.out _) ?_
 go_wp2_with (refine vlS rfl rfl w.heap.size 3 false n ⟨#[]⟩ 0 rfl rfl (heap_alloc_last w _) ?_; rw [World.setRow_alloc_new])
 refine vlR rfl rfl (heap_alloc_last w _) rfl rfl ⟨rfl, Ai _ _⟩
theorem Ago (s : ByteArray) : slS s 0 (ln s) = wh s := by
 unfold slS wh
 by_cases h : max 0 0 < min ((ln s : Nat) : Int) ((ln s : Nat) : Int)
 ·rw [if_pos h]
  congr 1 <;> omega
 ·rw [if_neg h]
  have h0 : ln s = 0 := by omega
  rw [h0]
  first | (simp; done) | exact (ByteArray.ext (by simp)).symm | (refine ByteArray.ext ?_; simp [ByteArray.extract])
end
section
theorem E5 (s : ByteArray) (w : World) (hs : s.size ≤ maxLen) : Ct 17 #[.string s] (Ay (Fm (wh s))) w := by
 have C1 := fun W => Hk s W hs
 have C2 := fun W => Mu s 0 (ln s) W hs
 rw [Ago] at C2
 obtain ⟨n, hn⟩ : ∃ n : Int, ((ln s : Nat) : Int) = n := ⟨_, rfl⟩
 rw [hn] at C1 C2
 obtain ⟨t, ht⟩ : ∃ t, wh s = t := ⟨_, rfl⟩
 rw [ht] at C2 ⊢
 clear hs hn ht
 have C1 := Lh C1
 have C2 := Lh C2
 go_enter Tryz.func17, Tryz.ntmps17
 go_wp2_with fail
 refine Sm (C1.out _) ?_
 go_wp2_with fail
 refine Sm (C2.out _) ?_
 go_wp2_with (refine vlS rfl rfl w.heap.size 4 false 0 t 0 rfl rfl (heap_alloc_last w _) ?_; rw [World.setRow_alloc_new])
 refine vlR rfl rfl (heap_alloc_last w _) rfl rfl ⟨rfl, Ai _ _⟩
theorem Iw (o : Int) (w : World) : Ct 19 #[.int .i64 o] (Ay (T4 (max o 0))) w := by
 obtain ⟨m, hm⟩ : ∃ m, max o 0 = m := ⟨_, rfl⟩
 rw [hm]
 go_enter Tryz.func19, Tryz.ntmps19
 go_wp2_with (refine vlS rfl rfl w.heap.size 5 false 0 ⟨#[]⟩ m rfl rfl (heap_alloc_last w _) ?_; rw [World.setRow_alloc_new])
 refine vlR rfl rfl (heap_alloc_last w _) rfl rfl ⟨rfl, Ai _ _⟩
theorem O9  (w : World) : Ct 22 #[.agg #[.int .i64 0, .bool false, .float .f64 0, .string ⟨#[]⟩, .int .i64 0]] (.tuple #[.float .f64 9221120237041090560, .int .i64 0]) w := by
 have C1 := Lh (fun W => Pb W)
 go_enter Tryz.func22, Tryz.ntmps22
 go_wp2_with fail
 refine Sm (C1.out _) ?_
 go_wp2
 go_ret2
 exact ⟨rfl, Ai _ _⟩
theorem P7  (w : World) : Ct 22 #[.agg #[.int .i64 1, .bool false, .float .f64 0, .string ⟨#[]⟩, .int .i64 0]] (.tuple #[.float .f64 0, .int .i64 0]) w := by
 go_enter Tryz.func22, Tryz.ntmps22
 go_wp2
 go_ret2
 exact ⟨rfl, Ai _ _⟩
theorem Nm  (w : World) : Ct 22 #[.agg #[.int .i64 2, .bool true, .float .f64 0, .string ⟨#[]⟩, .int .i64 0]] (.tuple #[.float .f64 4607182418800017408, .int .i64 0]) w := by
 go_enter Tryz.func22, Tryz.ntmps22
 go_wp2
 go_ret2
 exact ⟨rfl, Ai _ _⟩
theorem Oj  (w : World) : Ct 22 #[.agg #[.int .i64 2, .bool false, .float .f64 0, .string ⟨#[]⟩, .int .i64 0]] (.tuple #[.float .f64 0, .int .i64 0]) w := by
 go_enter Tryz.func22, Tryz.ntmps22
 go_wp2
 go_ret2
 exact ⟨rfl, Ai _ _⟩
theorem Ry (o : Int) (w : World) : Ct 22 #[.agg #[.int .i64 5, .bool false, .float .f64 0, .string ⟨#[]⟩, .int .i64 o]] (.tuple #[.float .f64 0, .int .i64 1]) w := by
 go_enter Tryz.func22, Tryz.ntmps22
 go_wp2
 go_ret2
 exact ⟨rfl, Ai _ _⟩
theorem Ph (n : Nat) (w : World) : Ct 22 #[.agg #[.int .i64 3, .bool false, .float .f64 n, .string ⟨#[]⟩, .int .i64 0]] (.tuple #[.float .f64 (cn n), .int .i64 0]) w := by
 have C1 := Lh (fun W => Na n W)
 obtain ⟨m, hm⟩ : ∃ m, cn n = m := ⟨_, rfl⟩
 rw [hm] at C1 ⊢
 clear hm
 go_enter Tryz.func22, Tryz.ntmps22
 go_wp2_with fail
 refine Sm (C1.out _) ?_
 go_wp2
 go_ret2
 exact ⟨rfl, Ai _ _⟩
theorem Pi (s : ByteArray) (hs : s.size ≤ 140737488355328) (w : World) : Ct 22 #[.agg #[.int .i64 4, .bool false, .float .f64 0, .string s, .int .i64 0]] (.tuple #[.float .f64 (Wv (nrw 0 (us (E4 s)))), .int .i64 0]) w := by
 have C1 := fun W => Qw s W hs
 obtain ⟨m, hm⟩ : ∃ m, Wv (nrw 0 (us (E4 s))) = m := ⟨_, rfl⟩
 rw [hm] at C1 ⊢
 have C1 := Lh C1
 clear hs hm
 go_enter Tryz.func22, Tryz.ntmps22
 go_wp2_with fail
 refine Bm (C1.out _) fun w2 b2 => ?_
 go_wp2
 go_ret2
 exact ⟨rfl, Aa (Ai _ _) b2⟩
end
section
theorem C0 {v : Val} (h : Bc v = true) (hs : v.vs.size ≤ 140737488355328) (w : World) : Ct 22 #[Ay v] (.tuple #[.float .f64 (Bs v), .int .i64 (Xs v)]) w := by
 rcases Dx h with rfl | rfl | ⟨b, rfl⟩ | ⟨n, _, rfl⟩ | ⟨s, _, rfl⟩ | ⟨o, _, rfl⟩
 ·exact O9 w
 ·exact P7 w
 ·cases b
  ·exact Oj w
  ·exact Nm w
 ·exact Ph n w
 ·exact Pi s hs w
 ·exact Ry o w
theorem Rs  (w : World) : Ct 24 #[.agg #[.int .i64 0, .bool false, .float .f64 0, .string ⟨#[]⟩, .int .i64 0]] (.tuple #[.string wUnd, .int .i64 0]) w := by
 have CW := Lh (fun W => (show Cp 52 #[.string ⟨#[117, 110, 100, 101, 102, 105, 110, 101, 100]⟩] W fun e w' => e = .returned (.string wUnd) ∧ Below W.heap.size W w' from Js [117, 110, 100, 101, 102, 105, 110, 101, 100] W rfl (by decide)))
 go_enter Tryz.func24, Tryz.ntmps24
 go_wp2_with fail
 refine Bm (CW.out _) fun w2 b2 => ?_
 go_wp2
 go_ret2
 exact ⟨rfl, Aa (Ai _ _) b2⟩
theorem Qs  (w : World) : Ct 24 #[.agg #[.int .i64 1, .bool false, .float .f64 0, .string ⟨#[]⟩, .int .i64 0]] (.tuple #[.string wNul, .int .i64 0]) w := by
 have CW := Lh (fun W => (show Cp 52 #[.string ⟨#[110, 117, 108, 108]⟩] W fun e w' => e = .returned (.string wNul) ∧ Below W.heap.size W w' from Js [110, 117, 108, 108] W rfl (by decide)))
 go_enter Tryz.func24, Tryz.ntmps24
 go_wp2_with fail
 refine Bm (CW.out _) fun w2 b2 => ?_
 go_wp2
 go_ret2
 exact ⟨rfl, Aa (Ai _ _) b2⟩
theorem Ok  (w : World) : Ct 24 #[.agg #[.int .i64 2, .bool true, .float .f64 0, .string ⟨#[]⟩, .int .i64 0]] (.tuple #[.string wTru, .int .i64 0]) w := by
 have CW := Lh (fun W => (show Cp 52 #[.string ⟨#[116, 114, 117, 101]⟩] W fun e w' => e = .returned (.string wTru) ∧ Below W.heap.size W w' from Js [116, 114, 117, 101] W rfl (by decide)))
 go_enter Tryz.func24, Tryz.ntmps24
 go_wp2_with fail
 refine Bm (CW.out _) fun w2 b2 => ?_
 go_wp2
 go_ret2
 exact ⟨rfl, Aa (Ai _ _) b2⟩
theorem N1  (w : World) : Ct 24 #[.agg #[.int .i64 2, .bool false, .float .f64 0, .string ⟨#[]⟩, .int .i64 0]] (.tuple #[.string wFal, .int .i64 0]) w := by
 have CW := Lh (fun W => (show Cp 52 #[.string ⟨#[102, 97, 108, 115, 101]⟩] W fun e w' => e = .returned (.string wFal) ∧ Below W.heap.size W w' from Js [102, 97, 108, 115, 101] W rfl (by decide)))
 go_enter Tryz.func24, Tryz.ntmps24
 go_wp2_with fail
 refine Bm (CW.out _) fun w2 b2 => ?_
 go_wp2
 go_ret2
 exact ⟨rfl, Aa (Ai _ _) b2⟩
theorem Qd (s : ByteArray) (w : World) : Ct 24 #[.agg #[.int .i64 4, .bool false, .float .f64 0, .string s, .int .i64 0]] (.tuple #[.string s, .int .i64 0]) w := by
 go_enter Tryz.func24, Tryz.ntmps24
 go_wp2
 go_ret2
 exact ⟨rfl, Ai _ _⟩
theorem Rr (o : Int) (w : World) : Ct 24 #[.agg #[.int .i64 5, .bool false, .float .f64 0, .string ⟨#[]⟩, .int .i64 o]] (.tuple #[.string ⟨#[]⟩, .int .i64 1]) w := by
 go_enter Tryz.func24, Tryz.ntmps24
 go_wp2
 go_ret2
 exact ⟨rfl, Ai _ _⟩
theorem Sd (n : Nat) (hn : n < 18446744073709551616) (w : World) (ht : Tab10 w) (hz : Cg w) : Ct 24 #[.agg #[.int .i64 3, .bool false, .float .f64 n, .string ⟨#[]⟩, .int .i64 0]] (.tuple #[.string (txt n), .int .i64 0]) w := by
 have C1 := Lh (fun W (hW : Below w.heap.size w W) => Y8 (w := W) hn (ht.on hW) (Ek hz hW) (Classical.choose_spec (Le n)))
 have hT := Lh (show wdS (Classical.choose (Le n)) = txt n from rfl)
 clear hn ht hz
 rw [hT.out] at C1
 go_enter Tryz.func24, Tryz.ntmps24
 go_wp2_with fail
 with_reducible refine Bm (C1.out _ (Ai _ _)) fun w2 b2 => ?_
 go_wp2
 go_ret2
 exact ⟨rfl, Aa (Ai _ _) b2⟩
theorem Cx {v : Val} (h : Bc v = true) (hn : v.vn < 18446744073709551616) (w : World) (ht : Tab10 w) (hz : Cg w) : Ct 24 #[Ay v] (.tuple #[.string (Dg v), .int .i64 (Xs v)]) w := by
 rcases Dx h with rfl | rfl | ⟨b, rfl⟩ | ⟨n, _, rfl⟩ | ⟨s, _, rfl⟩ | ⟨o, _, rfl⟩
 ·exact Rs w
 ·exact Qs w
 ·cases b
  ·exact N1 w
  ·exact Ok w
 ·exact Sd n hn w ht hz
 ·exact Qd s w
 ·exact Rr o w
end
section
def eqW (x y : Val) : Bool := x.vk == y.vk && (x.vb == y.vb && (oeq x.vn y.vn && (x.vs.toList == y.vs.toList && x.vo == y.vo)))
theorem Hu {P : Program} (w : World) (d : Nat) (t : TypeId) (k k' : FloatKind) (a b : Nat) (h : P.underlying t = some (.float k')) : (Op.equalIn (d + 1) t (.float k a) (.float k b)).run P w = .ok (k.format.order a b == some .eq) w := by
 simp [Op.equalIn, run_underlying h, Op.floatEq]
theorem Iz (x y : Val) (w : World) (d : Nat) : (Op.equalIn (d + 2) 24 (.agg (Af x)) (.agg (Af y))).run Tryz.prog w = .ok (eqW x y) w := by
 rw [run_equalIn_struct w (d + 1) 24 (Af x) (Af y) (by kernel_rfl) (by kernel_rfl)]
 have ei := fun (a b : Int) (W : World) => run_equalIn_int (P := Tryz.prog) W d 3 .i64 .i64 a b Tryz.underlying3
 have eb := fun (a b : Bool) (W : World) => run_equalIn_bool' (P := Tryz.prog) W d 4 a b Tryz.underlying4
 have ef := fun (a b : Nat) (W : World) => Hu (P := Tryz.prog) W d 22 .f64 .f64 a b Tryz.underlying22
 have es := fun (a b : ByteArray) (W : World) => run_equalIn_string (P := Tryz.prog) W d 9 a b Tryz.underlying9
 rw [show Tryz.prog.fieldsOf 24 = _ from by unfold Program.fieldsOf; rw [Tryz.underlying24]]
 unfold eqW Af oeq
 go_simp
 repeat' split
 all_goals simp_all
theorem Rp (x y : Val) (w : World) : (binOp .eql 24 (.agg (Af x)) (.agg (Af y))).run Tryz.prog w = .ok (.bool (eqW x y)) w := by
 rw [run_eql_struct, Iz]
 rfl
theorem Re (x y : Val) (w : World) : (binOp .neq 24 (.agg (Af x)) (.agg (Af y))).run Tryz.prog w = .ok (.bool (!eqW x y)) w := by
 rw [run_neq_struct, Iz]
 rfl
end
section
theorem J1 (x y : Val) : eqW x y = By x y := by
 unfold eqW By Cv
 generalize (x.vk == y.vk) = a
 generalize oeq x.vn y.vn = b
 generalize (x.vb == y.vb) = c
 generalize (x.vs.toList == y.vs.toList) = d
 generalize (x.vo == y.vo) = e
 revert a b c d e
 decide
end
section
attribute [local go_sem] stF
attribute [local go_sem high] Rp Re
theorem T2.row {w W : World} {x : Val} (h : T2 w W x vZ) (c : Array Value) : (W.setRow (w.heap.size + 1) c).heap[w.heap.size + 1]? = some (.cells c 24 (0, 0)) ∧ Below w.heap.size w (W.setRow (w.heap.size + 1) c) :=
 ⟨setRow_heap _ _ _ _ _ _ h.k2, D8 h.b (by omega) _⟩
def Pc (v : Val) : Val := if v.vk = 1 then Si else if v.vk = 2 then Tc v.vb else if v.vk = 3 then Gm (cn v.vn) else if v.vk = 4 then Fm (wh v.vs) else if v.vk = 5 then T4 (max v.vo 0) else Abv
theorem Add (b : Bool) (n : Nat) (s : ByteArray) (o : Int) (w : World) : Ct 42 #[.agg #[.int .i64 1, .bool b, .float .f64 n, .string s, .int .i64 o]] (Ay Si) w := by
 go_enter Tryz.func42, Tryz.ntmps42
 go_upto_region 1 with fail
 rw [Bv, show (#[.int .i64 1, .bool b, .float .f64 n, .string s, .int .i64 o] : Array Value) = Af ⟨1, b, n, s, o⟩ from rfl]
 obtain ⟨W1, hW1⟩ : ∃ W1, w.alloc (.cells (Af ⟨1, b, n, s, o⟩) 24) = W1 := ⟨_, rfl⟩
 rw [hW1]
 obtain ⟨W2, hW2⟩ : ∃ W2, W1.alloc (.cells (Af vZ) 24) = W2 := ⟨_, rfl⟩
 have HS := Lh (T2.new hW1 hW2)
 obtain ⟨a0, a1, a2, a3, a4, d0, d1, d2, d3, d4⟩ := HS.out.cs
 rw [hW2]
 clear hW1 hW2
 have HR := Lh (HS.out.row #[.int .i64 1, .bool false, .float .f64 0, .string ⟨#[]⟩, .int .i64 0])
 go_wp2_with (refine vlS rfl rfl (w.heap.size + 1) 1 false 0 ⟨#[]⟩ 0 rfl rfl HS.out.k2 ?_)
 refine vlR rfl rfl HR.out.1 rfl rfl ⟨rfl, HR.out.2⟩
theorem Adu (b : Bool) (n : Nat) (s : ByteArray) (o : Int) (w : World) : Ct 42 #[.agg #[.int .i64 2, .bool b, .float .f64 n, .string s, .int .i64 o]] (Ay (Tc b)) w := by
 have C1 := fun W => Mr b W
 have C1 := Lh C1
 go_enter Tryz.func42, Tryz.ntmps42
 go_upto_region 1 with fail
 rw [Bv, show (#[.int .i64 2, .bool b, .float .f64 n, .string s, .int .i64 o] : Array Value) = Af ⟨2, b, n, s, o⟩ from rfl]
 obtain ⟨W1, hW1⟩ : ∃ W1, w.alloc (.cells (Af ⟨2, b, n, s, o⟩) 24) = W1 := ⟨_, rfl⟩
 rw [hW1]
 obtain ⟨W2, hW2⟩ : ∃ W2, W1.alloc (.cells (Af vZ) 24) = W2 := ⟨_, rfl⟩
 have HS := Lh (T2.new hW1 hW2)
 obtain ⟨a0, a1, a2, a3, a4, d0, d1, d2, d3, d4⟩ := HS.out.cs
 rw [hW2]
 clear hW1 hW2
 go_wp2_with fail
 with_reducible refine Bm (C1.out _) fun w2 b2 => ?_
 have HT := Lh (HS.out.step b2)
 clear HS b2 a0 a1 a2 a3 a4 d0 d1 d2 d3 d4
 have HR := Lh (HT.out.row #[.int .i64 2, .bool b, .float .f64 0, .string ⟨#[]⟩, .int .i64 0])
 go_wp2_with (refine vlS rfl rfl (w.heap.size + 1) 2 b 0 ⟨#[]⟩ 0 rfl rfl HT.out.k2 ?_)
 refine vlR rfl rfl HR.out.1 rfl rfl ⟨rfl, HR.out.2⟩
theorem Ade (b : Bool) (n : Nat) (s : ByteArray) (o : Int) (w : World) : Ct 42 #[.agg #[.int .i64 3, .bool b, .float .f64 n, .string s, .int .i64 o]] (Ay (Gm (cn n))) w := by
 have C1 := fun W => Fr n W
 obtain ⟨m, hm⟩ : ∃ m, cn n = m := ⟨_, rfl⟩
 rw [hm] at C1 ⊢
 clear hm
 have C1 := Lh C1
 go_enter Tryz.func42, Tryz.ntmps42
 go_upto_region 1 with fail
 rw [Bv, show (#[.int .i64 3, .bool b, .float .f64 n, .string s, .int .i64 o] : Array Value) = Af ⟨3, b, n, s, o⟩ from rfl]
 obtain ⟨W1, hW1⟩ : ∃ W1, w.alloc (.cells (Af ⟨3, b, n, s, o⟩) 24) = W1 := ⟨_, rfl⟩
 rw [hW1]
 obtain ⟨W2, hW2⟩ : ∃ W2, W1.alloc (.cells (Af vZ) 24) = W2 := ⟨_, rfl⟩
 have HS := Lh (T2.new hW1 hW2)
 obtain ⟨a0, a1, a2, a3, a4, d0, d1, d2, d3, d4⟩ := HS.out.cs
 rw [hW2]
 clear hW1 hW2
 go_wp2_with fail
 with_reducible refine Bm (C1.out _) fun w2 b2 => ?_
 have HT := Lh (HS.out.step b2)
 clear HS b2 a0 a1 a2 a3 a4 d0 d1 d2 d3 d4
 have HR := Lh (HT.out.row #[.int .i64 3, .bool false, .float .f64 m, .string ⟨#[]⟩, .int .i64 0])
 go_wp2_with (refine vlS rfl rfl (w.heap.size + 1) 3 false m ⟨#[]⟩ 0 rfl rfl HT.out.k2 ?_)
 refine vlR rfl rfl HR.out.1 rfl rfl ⟨rfl, HR.out.2⟩
theorem Z1 (b : Bool) (n : Nat) (s : ByteArray) (o : Int) (w : World) (hs : s.size ≤ maxLen) : Ct 42 #[.agg #[.int .i64 4, .bool b, .float .f64 n, .string s, .int .i64 o]] (Ay (Fm (wh s))) w := by
 have C1 := fun W => E5 s W hs
 obtain ⟨t, ht⟩ : ∃ t, wh s = t := ⟨_, rfl⟩
 rw [ht] at C1 ⊢
 clear ht hs
 have C1 := Lh C1
 go_enter Tryz.func42, Tryz.ntmps42
 go_upto_region 1 with fail
 rw [Bv, show (#[.int .i64 4, .bool b, .float .f64 n, .string s, .int .i64 o] : Array Value) = Af ⟨4, b, n, s, o⟩ from rfl]
 obtain ⟨W1, hW1⟩ : ∃ W1, w.alloc (.cells (Af ⟨4, b, n, s, o⟩) 24) = W1 := ⟨_, rfl⟩
 rw [hW1]
 obtain ⟨W2, hW2⟩ : ∃ W2, W1.alloc (.cells (Af vZ) 24) = W2 := ⟨_, rfl⟩
 have HS := Lh (T2.new hW1 hW2)
 obtain ⟨a0, a1, a2, a3, a4, d0, d1, d2, d3, d4⟩ := HS.out.cs
 rw [hW2]
 clear hW1 hW2
 go_wp2_with fail
 with_reducible refine Bm (C1.out _) fun w2 b2 => ?_
 have HT := Lh (HS.out.step b2)
 clear HS b2 a0 a1 a2 a3 a4 d0 d1 d2 d3 d4
 have HR := Lh (HT.out.row #[.int .i64 4, .bool false, .float .f64 0, .string t, .int .i64 0])
 go_wp2_with (refine vlS rfl rfl (w.heap.size + 1) 4 false 0 t 0 rfl rfl HT.out.k2 ?_)
 refine vlR rfl rfl HR.out.1 rfl rfl ⟨rfl, HR.out.2⟩
theorem Acq (b : Bool) (n : Nat) (s : ByteArray) (o : Int) (w : World) : Ct 42 #[.agg #[.int .i64 5, .bool b, .float .f64 n, .string s, .int .i64 o]] (Ay (T4 (max o 0))) w := by
 have C1 := fun W => Iw o W
 obtain ⟨m, hm⟩ : ∃ m, max o 0 = m := ⟨_, rfl⟩
 rw [hm] at C1 ⊢
 clear hm
 have C1 := Lh C1
 go_enter Tryz.func42, Tryz.ntmps42
 go_upto_region 1 with fail
 rw [Bv, show (#[.int .i64 5, .bool b, .float .f64 n, .string s, .int .i64 o] : Array Value) = Af ⟨5, b, n, s, o⟩ from rfl]
 obtain ⟨W1, hW1⟩ : ∃ W1, w.alloc (.cells (Af ⟨5, b, n, s, o⟩) 24) = W1 := ⟨_, rfl⟩
 rw [hW1]
 obtain ⟨W2, hW2⟩ : ∃ W2, W1.alloc (.cells (Af vZ) 24) = W2 := ⟨_, rfl⟩
 have HS := Lh (T2.new hW1 hW2)
 obtain ⟨a0, a1, a2, a3, a4, d0, d1, d2, d3, d4⟩ := HS.out.cs
 rw [hW2]
 clear hW1 hW2
 go_wp2_with fail
 with_reducible refine Bm (C1.out _) fun w2 b2 => ?_
 have HT := Lh (HS.out.step b2)
 clear HS b2 a0 a1 a2 a3 a4 d0 d1 d2 d3 d4
 have HR := Lh (HT.out.row #[.int .i64 5, .bool false, .float .f64 0, .string ⟨#[]⟩, .int .i64 m])
 go_wp2_with (refine vlS rfl rfl (w.heap.size + 1) 5 false 0 ⟨#[]⟩ m rfl rfl HT.out.k2 ?_)
 refine vlR rfl rfl HR.out.1 rfl rfl ⟨rfl, HR.out.2⟩
theorem Abt (k : Int) (b : Bool) (n : Nat) (s : ByteArray) (o : Int) (w : World) (h1 : ¬ k = 1) (h2 : ¬ k = 2) (h3 : ¬ k = 3) (h4 : ¬ k = 4) (h5 : ¬ k = 5) : Ct 42 #[.agg #[.int .i64 k, .bool b, .float .f64 n, .string s, .int .i64 o]] (Ay Abv) w := by
 go_enter Tryz.func42, Tryz.ntmps42
 go_upto_region 1 with fail
 rw [Bv, show (#[.int .i64 k, .bool b, .float .f64 n, .string s, .int .i64 o] : Array Value) = Af ⟨k, b, n, s, o⟩ from rfl]
 obtain ⟨W1, hW1⟩ : ∃ W1, w.alloc (.cells (Af ⟨k, b, n, s, o⟩) 24) = W1 := ⟨_, rfl⟩
 rw [hW1]
 obtain ⟨W2, hW2⟩ : ∃ W2, W1.alloc (.cells (Af vZ) 24) = W2 := ⟨_, rfl⟩
 have HS := Lh (T2.new hW1 hW2)
 obtain ⟨a0, a1, a2, a3, a4, d0, d1, d2, d3, d4⟩ := HS.out.cs
 rw [hW2]
 clear hW1 hW2
 have HR := Lh (HS.out.row #[.int .i64 0, .bool false, .float .f64 0, .string ⟨#[]⟩, .int .i64 0])
 go_wp2_with (refine vlS rfl rfl (w.heap.size + 1) 0 false 0 ⟨#[]⟩ 0 rfl rfl HS.out.k2 ?_)
 refine vlR rfl rfl HR.out.1 rfl rfl ⟨rfl, HR.out.2⟩
theorem T9 (v : Val) (w : World) (hs : v.vs.size ≤ maxLen) : Ct 42 #[Ay v] (Ay (Pc v)) w := by
 obtain ⟨k, b, n, s, o⟩ := v
 dsimp only at hs
 unfold Pc
 dsimp only
 by_cases h1 : k = 1
 ·subst h1; exact Add b n s o w
 ·by_cases h2 : k = 2
  ·subst h2; exact Adu b n s o w
  ·by_cases h3 : k = 3
   ·subst h3; exact Ade b n s o w
   ·by_cases h4 : k = 4
    ·subst h4; exact Z1 b n s o w hs
    ·by_cases h5 : k = 5
     ·subst h5; exact Acq b n s o w
     ·rw [if_neg h1, if_neg h2, if_neg h3, if_neg h4, if_neg h5]
      exact Abt k b n s o w h1 h2 h3 h4 h5
structure TC (w W : World) (g : Nat) (x y : Val) : Prop where
 k : BlkV W w.heap.size x
 k2 : BlkV W g y
 l : w.heap.size < g
 l2 : g < W.heap.size
 b : Below w.heap.size w W
theorem TC.drew {w W : World} {g : Nat} {x y : Val} (h : TC w W g x y) : TC w W.drew g x y := ⟨h.k, h.k2, h.l, h.l2, Ae h.b 1⟩
theorem TC.cs {w W : World} {g : Nat} {x y : Val} (h : TC w W g x y) : W.cell? ⟨w.heap.size, 2, none⟩ = some (.float .f64 x.vn) ∧ W.cell? ⟨g, 2, none⟩ = some (.float .f64 y.vn) := ⟨h.k.cell rfl, h.k2.cell rfl⟩
theorem TC.new {w W : World} {x y : Val} (h : T1 w W x) : TC w (W.alloc (.cells (Af y) 24)) W.heap.size x y := by
 obtain ⟨a, b, c⟩ := Es (w := W) (v := y) rfl
 exact ⟨h.k.below b h.l, a, h.l, by omega, Aa h.b b⟩
def J8 (v : Val) : Val := ⟨v.vk, v.vb, 0, v.vs, v.vo⟩
theorem Pw {W : World} {g : Nat} {v : Val} (h : BlkV W g v) : W.setCell ⟨g, 2, none⟩ (.float .f64 0) = W.setRow g (Af (J8 v)) := setCell_eq_setRow W g 2 (Af v) 24 (0, 0) _ h
theorem stN {ops : Array Oper} {rest : List Oper} {o : Oper} {a : Act} {w : World} {Q : Exit → Act → World → Prop} {x y : Operand} {g : Nat} {v : Val} (hg : BlkV w g v) (hgd : o.guard = none) (ho : o.op = .store 22 x y)
  (hx : a.eval x = .pointer (some ⟨g, 2, none⟩)) (hy : a.eval y = .float .f64 0) (h : wpList Tryz.prog ops Q rest (a.put o.dst undef) (w.setRow g (Af (J8 v)))) : wpList Tryz.prog ops Q (o :: rest) a w := by
 have c := hg.cell (k := 2) rfl
 have f := frozen_of_row w g 2 _ _ hg
 have hs : (Instr.storeAt 22 (.pointer (some ⟨g, 2, none⟩)) (.float .f64 0)).run Tryz.prog w = .ok () (w.setCell ⟨g, 2, none⟩ (.float .f64 0)) := by
  go_simp
 refine wpList_plain hgd fun _ hK => ?_
 unfold Oper.wp execOp
 simp only [ho, hx, hy, hs, Sem.run_bind, Sem.run_pure, Result.andThen_ok]
 rw [Pw hg]
 exact hK _ _ h
theorem TC.nul1 {w W : World} {g : Nat} {x y : Val} (h : TC w W g x y) : TC w (W.setRow w.heap.size (Af (J8 x))) g (J8 x) y :=
 ⟨setRow_heap _ _ _ _ _ _ h.k, (setRow_other _ _ _ _ (by have := h.l; omega)).trans h.k2, h.l, by rw [size_setRow]; exact h.l2, D8 h.b (Nat.le_refl _) _⟩
theorem TC.nul2 {w W : World} {g : Nat} {x y : Val} (h : TC w W g x y) : TC w (W.setRow g (Af (J8 y))) g x (J8 y) :=
 ⟨(setRow_other _ _ _ _ (by have := h.l; omega)).trans h.k, setRow_heap _ _ _ _ _ _ h.k2, h.l, by rw [size_setRow]; exact h.l2, D8 h.b (Nat.le_of_lt h.l) _⟩
theorem Ad6 (s : ByteArray) : (s.toList == (wh s).toList) = (s.toList.isEmpty || s.size % 2 == 0) := by
 have hl : (wh s).size = 2 * ln s := by unfold wh; rw [ByteArray.size_extract]; unfold ln; omega
 have hz : s.toList.isEmpty = true → s.size % 2 = 0 := fun h => by rw [K6 h]; rfl
 rw [Bool.eq_iff_iff, Bool.or_eq_true, beq_iff_eq, beq_iff_eq]
 constructor
 ·intro h
  right
  have h2 := congrArg List.length h
  rw [ByteArray.toList_eq, ByteArray.toList_eq, ← Lib.size_eq, ← Lib.size_eq, hl] at h2
  omega
 ·intro h
  have he : s.size % 2 = 0 := h.elim hz id
  have : wh s = s := by unfold wh; rw [show 2 * ln s = s.size by unfold ln; omega]; exact ByteArray.extract_zero_size
  rw [this]
theorem Zd (v : Val) : ((v.vn == (Pc v).vn) && eqW (J8 v) (J8 (Pc v))) = Bc v := by
 obtain ⟨k, b, n, s, o⟩ := v
 have hz : oeq 0 0 = true := by decide +kernel
 unfold Bc eqW Pc J8
 dsimp only
 by_cases h1 : k = 1
 ·subst h1
  simp [Si, hz]
  ac_rfl
 ·by_cases h2 : k = 2
  ·subst h2
   simp [Tc, hz]
   ac_rfl
  ·by_cases h3 : k = 3
   ·subst h3
    have hc : (n == cn n) = (n == 0 || cn n == n) := by
     rw [Bool.eq_iff_iff, Bool.or_eq_true, beq_iff_eq, beq_iff_eq, beq_iff_eq]
     exact ⟨fun h => .inr h.symm, fun h => h.elim (fun e => by rw [e]; rfl) Eq.symm⟩
    simp [Gm, hz, hc]
    ac_rfl
   ·by_cases h4 : k = 4
    ·subst h4
     simp [Fm, hz, Ad6]
     ac_rfl
    ·by_cases h5 : k = 5
     ·subst h5
      have ho : (o == max o 0) = (o == 0 || decide (0 < o)) := by
       rw [Bool.eq_iff_iff, Bool.or_eq_true, beq_iff_eq, beq_iff_eq, decide_eq_true_iff]
       omega
      simp [T4, hz, ho]
      ac_rfl
     ·by_cases h0 : k = 0
      ·subst h0
       simp [Abv, hz]
       ac_rfl
      ·have hk : (decide (0 ≤ k) && decide (k ≤ 5)) = false := by
        rw [Bool.and_eq_false_iff, decide_eq_false_iff_not, decide_eq_false_iff_not]
        omega
       have hk0 : (k == 0) = false := by simpa using h0
       simp [Abv, h1, h2, h3, h4, h5, hk, hk0]
theorem Pe (x c : Val) (w : World) (C1 : Hid (∀ W, Ct 42 #[.agg (Af x)] (.agg (Af c)) W)) (N E : Bool) (hN : ((x.vn : Int) != (c.vn : Int)) = N) (hE : Hid (eqW (J8 x) (J8 c) = E)) :
  Ct 9 #[.agg (Af x)] (.int .i64 (if (!N && E) = true then 0 else 1)) w := by
 have h1 := fun W => Av x.vn W
 have h2 := fun W => Av c.vn W
 go_enter Tryz.func9, Tryz.ntmps9
 go_upto_region 1 with fail
 obtain ⟨W1, hW1⟩ : ∃ W1, w.alloc (.cells (Af x) 24) = W1 := ⟨_, rfl⟩
 have HS := Lh (T1.new hW1)
 rw [hW1]
 clear hW1
 go_wp2_with (refine ldX (k := 4) HS.out.k rfl (by kernel_rfl) rfl rfl ?_)
 with_reducible refine Bm (C1.out _) fun w2 b2 => ?_
 have HT := Lh (HS.out.step b2)
 clear HS b2 C1
 go_upto_region 2 with (refine vlS rfl rfl w2.heap.size c.vk c.vb c.vn c.vs c.vo rfl rfl (heap_alloc_last w2 _) ?_; rw [World.setRow_alloc_new])
 have HS := Lh (TC.new (y := c) HT.out)
 clear HT
 rw [show (#[.int .i64 c.vk, .bool c.vb, .float .f64 c.vn, .string c.vs, .int .i64 c.vo] : Array Value) = Af c from rfl]
 generalize w2.alloc (.cells (Af c) 24) = W at *
 generalize w2.heap.size = g at *
 refine wp_region_held_drew (S := fun wx => TC w wx g x c) (by kernel_rfl) (HS.out.drew) (fun hHeld => ?_)
 refine Tg 0 rfl rfl ?_; simp only [Ad]
 refine Tk 1 rfl rfl (Or.inl ⟨by rfl, by (intro w hS; have c := hS.cs.1; go_simp; try with_reducible rfl)⟩) ?_; simp only [Ad]
 refine Tg 2 rfl rfl ?_; simp only [Ad]
 refine Tg 3 rfl rfl ?_; simp only [Ad]
 refine Tk 4 rfl rfl (Or.inl ⟨by rfl, by (intro w hS; have c := hS.cs.2; go_simp; try with_reducible rfl)⟩) ?_; simp only [Ad]
 refine Tg 5 rfl rfl ?_; simp only [Ad]
 refine Tg 6 rfl rfl ?_; simp only [Ad]
 refine wpAnyH_done (by kernel_rfl) ?_ _
 clear HS h1 h2
 have HS := Lh hHeld
 clear hHeld
 cases N
 ·have H1 := Lh HS.out.nul1
  have H2 := Lh H1.out.nul2
  have hE1 := hE.out
  clear hE
  cases E
  ·skip
   go_wp2_with (first | (refine stN HS.out.k rfl rfl rfl rfl ?_) | (refine stN H1.out.k2 rfl rfl rfl rfl ?_) | (refine ldX (k := 15) H2.out.k rfl (by kernel_rfl) rfl rfl ?_) | (refine ldX (k := 16) H2.out.k2 rfl (by kernel_rfl) rfl rfl ?_))
   go_ret
   exact ⟨rfl, H2.out.b⟩
  ·skip
   go_wp2_with (first | (refine stN HS.out.k rfl rfl rfl rfl ?_) | (refine stN H1.out.k2 rfl rfl rfl rfl ?_) | (refine ldX (k := 15) H2.out.k rfl (by kernel_rfl) rfl rfl ?_) | (refine ldX (k := 16) H2.out.k2 rfl (by kernel_rfl) rfl rfl ?_))
   go_ret
   exact ⟨rfl, H2.out.b⟩
 ·skip
  go_wp2
  go_ret
  exact ⟨rfl, HS.out.b⟩
theorem S8 (v : Val) (w : World) (hs : v.vs.size ≤ maxLen) : Ct 9 #[Ay v] (.int .i64 (if Bc v = true then 0 else 1)) w := by
 have h := Pe v (Pc v) w (Lh fun W => T9 v W hs) _ _ rfl (Lh rfl)
 rw [show (!((v.vn : Int) != ((Pc v).vn : Int))) = (v.vn == (Pc v).vn) by rw [← Ff]; simp [bne], Zd] at h
 exact h
end
end Go.Proofs.YtmakhfekiieneaaGreatDoor
