/-
  Plain facts on the range reductions of Exp and of the angles: how great is what is left. No program in it but conversions.
-/
import Derived.Test.YtbinpcoaghpcdaaMb
import Derived.Test.YtbinpcoaghpcdaaLawG
namespace Go.Proofs.Ytbinpcoaghpcdaa
open Go.RowKit
theorem word_self {x : Nat} (h : x < 18446744073709551616) : Ieee.double.word (fneg x) (rung x) = x := by
  unfold fneg rung
  by_cases h1 : x < 9223372036854775808
  · rw [Nat.div_eq_of_lt h1, Nat.mod_eq_of_lt h1]; rfl
  · rw [show x / 9223372036854775808 = 1 by omega]
    show 9223372036854775808 + x % 9223372036854775808 = x
    omega
theorem fnan_of {x : Nat} (h : Fin64 x) : fnan x = false := by unfold fnan; exact decide_eq_false (by have := h.2; omega)
/-- What Floor tells of a finite float, and the int that it is. -/
theorem floor_sv {x K : Nat} (hx : Fin64 x) (hK : K = 1074) : ∃ n : Int, Fin64 (itg .down x) ∧ sv (itg .down x) = n * (2 ^ K : Nat) ∧ n * (2 ^ K : Nat) ≤ sv x ∧ sv x < n * (2 ^ K : Nat) + (2 ^ K : Nat) ∧
    (-9007199254740992 < n → n < 9007199254740992 → ∀ W : World, (convert 22 3 (.float .f64 (itg .down x))).run Try.prog W = .ok (.int .i64 n) W) := by
  obtain ⟨c, r, h1, h2, h3, h4⟩ := floor_spec (s := fneg x) hx.2 hK
  rw [word_self hx.1] at h1
  rw [h1]
  obtain ⟨a1, a2, a3⟩ := word_rung (fneg x) (r := r) (by omega)
  have hmg : mg (Ieee.double.word (fneg x) r) = c * 2 ^ K := by unfold mg; rw [a1]; exact h3
  have hxm : fmag (rung x) = mg x := rfl
  rw [hxm] at h4
  have htr : trn r = c := by rw [trn_eq hK, h3, Nat.mul_div_cancel _ (Nat.two_pow_pos K)]
  have hU := Nat.two_pow_pos K
  obtain ⟨Z, hZ⟩ : ∃ Z, c * 2 ^ K = Z := ⟨_, rfl⟩
  have e1 : (c + 1) * 2 ^ K = Z + 2 ^ K := by rw [Nat.add_mul, hZ, Nat.one_mul]
  have e2 : ((c : Nat) : Int) * (2 ^ K : Nat) = (Z : Int) := by rw [← hZ]; simp
  have e3 : (-((c : Nat) : Int)) * (2 ^ K : Nat) = -(Z : Int) := by rw [Int.neg_mul, e2]
  rw [hZ, e1] at h4
  rw [hZ] at hmg
  refine ⟨if fneg x = true then -(c : Int) else (c : Int), ⟨a3, by rw [a1]; exact h2⟩, ?_, ?_, ?_, fun b1 b2 W => ?_⟩
  · unfold sv; rw [a2, hmg]; cases fneg x <;> simp only [if_true, Bool.false_eq_true, if_false] <;> omega
  · unfold sv; cases hs : fneg x <;> rw [hs] at h4 <;> simp only [if_true, Bool.false_eq_true, if_false] <;> simp at h4 <;> omega
  · unfold sv; cases hs : fneg x <;> rw [hs] at h4 <;> simp only [if_true, Bool.false_eq_true, if_false] <;> simp at h4 <;> omega
  · have h5 : c < 9007199254740992 := by cases hs : fneg x <;> rw [hs] at b1 b2 <;> simp at b1 b2 <;> omega
    rw [show (if fneg x = true then -(c : Int) else (c : Int)) = (if fneg x = true then -(trn r : Int) else (trn r : Int)) by rw [htr]]
    refine run_convert_float_int W 22 3 .f64 .i64 _ _ (by kernel_rfl) (by kernel_rfl) ?_
    unfold floatToIntVal
    rw [toInt_word (fneg x) h2]
    simp only
    have m1 : IntKind.i64.min = -9223372036854775808 := rfl
    have m2 : IntKind.i64.max = 9223372036854775807 := rfl
    rw [if_pos (by rw [m1, m2, htr]; cases fneg x <;> simp <;> omega)]
/-- A constant's amount. -/
theorem mg_const {c M d e g : Nat} (hc : c = d * 4503599627370496 + M) (h1 : 4503599627370496 ≤ M) (h2 : M < 9007199254740992) (hd : d = e + g) (hd2 : d < 2046) : Fin64 c ∧ mg c = M * 2 ^ e * 2 ^ g ∧ sv c = ((M * 2 ^ e : Nat) : Int) * (2 ^ g : Nat) := by
  have hlt : c < 9218868437227405312 := by omega
  obtain ⟨p1, p2, _⟩ := pos_rung (x := c) (by omega)
  have hm : mg c = M * 2 ^ e * 2 ^ g := by unfold mg; rw [p1, hc, fmag_make _ _ h1 h2, hd, Nat.pow_add, Nat.mul_assoc]
  refine ⟨⟨by omega, by rw [p1]; exact hlt⟩, hm, ?_⟩
  unfold sv
  rw [p2, hm]
  simp
theorem le_cancel {a b u : Int} (hu : 0 < u) (h : a * u ≤ b * u) : a ≤ b := Int.le_of_mul_le_mul_right h hu
/-- A product with a constant, told up to its rounding. -/
theorem mul_const_off {x c K g : Nat} {h V : Int} (hx : Fin64 x) (hc : Fin64 c) (hK : K = 1074) (hg : K = 96 + g) (hsv : sv c = h * (2 ^ g : Nat)) (hh : 0 ≤ h) (hV : -V ≤ sv x ∧ sv x ≤ V) (hr : rung (mulF x c) < 9218868437227405312) :
    9007199254740992 * (sv (mulF x c) * 79228162514264337593543950336 - sv x * h) ≤ V * h + 356811923176489970264571492362373784095686656 ∧ -(V * h + 356811923176489970264571492362373784095686656) ≤ 9007199254740992 * (sv (mulF x c) * 79228162514264337593543950336 - sv x * h) := by
  have hp : (0 : Int) < (2 ^ g : Nat) := by have := Nat.two_pow_pos g; omega
  have hP : ((2 ^ K : Nat) : Int) = 79228162514264337593543950336 * (2 ^ g : Nat) := by rw [hg, Nat.pow_add, Int.natCast_mul]; rfl
  have b1 : sv x * h ≤ V * h := Int.mul_le_mul_of_nonneg_right hV.2 hh
  have b2 : -V * h ≤ sv x * h := Int.mul_le_mul_of_nonneg_right hV.1 hh
  have key := mulF_off hx hc hK hr (V * h * (2 ^ g : Nat)) (by
    rw [hsv]
    have c1 := Int.mul_le_mul_of_nonneg_right b1 (Int.le_of_lt hp)
    have c2 := Int.mul_le_mul_of_nonneg_right b2 (Int.le_of_lt hp)
    grind)
  rw [hsv, hP] at key
  generalize ((2 ^ g : Nat) : Int) = u at *
  exact ⟨le_cancel hp (by grind), le_cancel hp (by grind)⟩
/-- A whole number's product with a constant, told up to its rounding. -/
theorem mul_int_off {x c K g : Nat} {n h m : Int} (hx : Fin64 x) (hc : Fin64 c) (hK : K = 1074) (hn : sv x = n * (2 ^ K : Nat)) (hsv : sv c = h * (2 ^ g : Nat)) (hh : 0 ≤ h) (hm : -m ≤ n ∧ n ≤ m) (hr : rung (mulF x c) < 9218868437227405312) :
    9007199254740992 * (sv (mulF x c) - h * (n * (2 ^ g : Nat))) ≤ m * h * (2 ^ g : Nat) + 4503599627370496 ∧ -(m * h * (2 ^ g : Nat) + 4503599627370496) ≤ 9007199254740992 * (sv (mulF x c) - h * (n * (2 ^ g : Nat))) := by
  have hp : (0 : Int) < (2 ^ g : Nat) := by have := Nat.two_pow_pos g; omega
  have hq : (0 : Int) < (2 ^ K : Nat) := by have := Nat.two_pow_pos K; omega
  have b1 : n * (h * (2 ^ g : Nat)) ≤ m * (h * (2 ^ g : Nat)) := Int.mul_le_mul_of_nonneg_right hm.2 (Int.mul_nonneg hh (Int.le_of_lt hp))
  have b2 : -m * (h * (2 ^ g : Nat)) ≤ n * (h * (2 ^ g : Nat)) := Int.mul_le_mul_of_nonneg_right hm.1 (Int.mul_nonneg hh (Int.le_of_lt hp))
  have key := mulF_off hx hc hK hr (m * (h * (2 ^ g : Nat)) * (2 ^ K : Nat)) (by
    rw [hn, hsv]
    have c1 := Int.mul_le_mul_of_nonneg_right b1 (Int.le_of_lt hq)
    have c2 := Int.mul_le_mul_of_nonneg_right b2 (Int.le_of_lt hq)
    grind)
  rw [hn, hsv] at key
  generalize ((2 ^ g : Nat) : Int) = u at *
  generalize ((2 ^ K : Nat) : Int) = v at *
  exact ⟨le_cancel hq (by grind), le_cancel hq (by grind)⟩
theorem Bd.mk' {n x : Nat} (h : Fin64 x) (h2 : mg x ≤ 2 ^ n) (hn : n ≤ 2097) : Bd n x := ⟨h.1, h2, hn⟩
def xpK (x : Nat) : Nat := itg .down (addF (mulF x 4609176140021203710) 4602678819172646912)
def xpR (x : Nat) : Nat := subF (subF x (mulF (xpK x) 4604418534311723008)) (mulF (xpK x) 4461442080421002358)
set_option exponentiation.threshold 2000 in
/-- What is left of a number for Exp: a half at most. -/
theorem xp_red {x K g : Nat} (hx : Fin64 x) (hK : K = 1074) (hg : g = 978) (hX : -(746 * ((2 ^ K : Nat) : Int)) ≤ sv x ∧ sv x ≤ 746 * ((2 ^ K : Nat) : Int)) :
    ∃ n : Int, (-1492 ≤ n ∧ n ≤ 1492) ∧ Ieee.double.mul x 4609176140021203710 = some (mulF x 4609176140021203710) ∧ Ieee.double.add (mulF x 4609176140021203710) 4602678819172646912 = some (addF (mulF x 4609176140021203710) 4602678819172646912) ∧ fnan (addF (mulF x 4609176140021203710) 4602678819172646912) = false ∧ fnan (xpK x) = false ∧
      Ieee.double.mul (xpK x) 4604418534311723008 = some (mulF (xpK x) 4604418534311723008) ∧ Ieee.double.sub x (mulF (xpK x) 4604418534311723008) = some (subF x (mulF (xpK x) 4604418534311723008)) ∧ Ieee.double.mul (xpK x) 4461442080421002358 = some (mulF (xpK x) 4461442080421002358) ∧
      Ieee.double.sub (subF x (mulF (xpK x) 4604418534311723008)) (mulF (xpK x) 4461442080421002358) = some (xpR x) ∧ Fin64 (xpR x) ∧ 2 * sv (xpR x) ≤ ((2 ^ K : Nat) : Int) ∧ -((2 ^ K : Nat) : Int) ≤ 2 * sv (xpR x) ∧
      (∀ W : World, (convert 22 3 (.float .f64 (xpK x))).run Try.prog W = .ok (.int .i64 n) W) := by
  obtain ⟨ci, _, si⟩ := mg_const (c := 4609176140021203710) (M := 6497320848556798) (d := 1022) (e := 44) (g := g) (by omega) (by omega) (by omega) (by omega) (by omega)
  obtain ⟨ch, _, sh⟩ := mg_const (c := 4604418534311723008) (M := 6243314766446592) (d := 1021) (e := 43) (g := g) (by omega) (by omega) (by omega) (by omega) (by omega)
  obtain ⟨cl, _, sl⟩ := mg_const (c := 4461442080421002358) (M := 7382048951581814) (d := 989) (e := 11) (g := g) (by omega) (by omega) (by omega) (by omega) (by omega)
  obtain ⟨cf, _, sf⟩ := mg_const (c := 4602678819172646912) (M := 4503599627370496) (d := 1021) (e := 43) (g := g) (by omega) (by omega) (by omega) (by omega) (by omega)
  rw [show ((6497320848556798 * 2 ^ 44 : Nat) : Int) = 114302077158074024789926739968 by decide] at si
  rw [show ((6243314766446592 * 2 ^ 43 : Nat) : Int) = 54916777452589037098301915136 by decide] at sh
  rw [show ((7382048951581814 * 2 ^ 11 : Nat) : Int) = 15118436252839555072 by decide] at sl
  rw [show ((4503599627370496 * 2 ^ 43 : Nat) : Int) = 39614081257132168796771975168 by decide] at sf
  have hKg : K = 96 + g := by omega
  have hP : ((2 ^ K : Nat) : Int) = 79228162514264337593543950336 * (2 ^ g : Nat) := by rw [hKg, Nat.pow_add, Int.natCast_mul]; rfl
  have hub : (1208925819614629174706176 : Int) ≤ (2 ^ g : Nat) := by
    have : 2 ^ 80 ≤ 2 ^ g := Nat.pow_le_pow_right (by omega) (by omega)
    have e : (2 : Nat) ^ 80 = 1208925819614629174706176 := by decide
    omega
  -- the crude bounds
  have hp : 2 ^ K = 79228162514264337593543950336 * 2 ^ g := by rw [hKg, Nat.pow_add]
  have bd : ∀ z : Nat, Fin64 z → ∀ t : Int, (-t ≤ sv z ∧ sv z ≤ t) → t ≤ 1099511627776 * ((2 ^ K : Nat) : Int) → Bd 1200 z := by
    intro z hz t ht hb
    refine ⟨hz.1, ?_, by omega⟩
    have h1 := sv_abs z
    have h2 : (2 : Nat) ^ 1200 = 2 ^ 126 * 2 ^ K := by rw [← Nat.pow_add, show 126 + K = 1200 by omega]
    have h3 : 1099511627776 * 2 ^ K ≤ 2 ^ 126 * 2 ^ K := Nat.mul_le_mul_right _ (by decide)
    rw [h2]
    omega
  have kx : Bd 1200 x := bd x hx _ hX (by rw [hP]; omega)
  have ki : Bd 1200 4609176140021203710 := bd _ ci (114302077158074024789926739968 * (2 ^ g : Nat)) (by rw [si]; omega) (by rw [hP]; omega)
  have kh : Bd 1200 4604418534311723008 := bd _ ch (54916777452589037098301915136 * (2 ^ g : Nat)) (by rw [sh]; omega) (by rw [hP]; omega)
  have kl : Bd 1200 4461442080421002358 := bd _ cl (15118436252839555072 * (2 ^ g : Nat)) (by rw [sl]; omega) (by rw [hP]; omega)
  have kf : Bd 1200 4602678819172646912 := bd _ cf (39614081257132168796771975168 * (2 ^ g : Nat)) (by rw [sf]; omega) (by rw [hP]; omega)
  obtain ⟨o1, kt⟩ := mulF_B (c := 1330) kx ki (by omega) (by omega)
  obtain ⟨o2, ks⟩ := addF_B kt (kf.mono (k := 1330) (by omega) (by omega)) (by omega)
  obtain ⟨n, fk, sk, k1, k2, k3⟩ := floor_sv ks.fin hK
  have q1 := mul_const_off hx ci hK hKg si (by omega) hX kt.fin.2
  obtain ⟨t, ht⟩ : ∃ t, mulF x 4609176140021203710 = t := ⟨_, rfl⟩
  rw [ht] at o1 o2 kt ks fk sk k1 k2 k3 q1
  have ek : xpK x = itg .down (addF t 4602678819172646912) := by unfold xpK; rw [ht]
  have er : xpR x = subF (subF x (mulF (xpK x) 4604418534311723008)) (mulF (xpK x) 4461442080421002358) := rfl
  rw [← ek] at fk sk k3
  obtain ⟨k, hk⟩ : ∃ k, xpK x = k := ⟨_, rfl⟩
  obtain ⟨r, hr⟩ : ∃ r, xpR x = r := ⟨_, rfl⟩
  rw [hr, hk] at er
  rw [hk] at fk sk k3
  rw [hP] at hX q1 k1 k2 sk
  obtain ⟨u, hu⟩ : ∃ u : Int, ((2 ^ g : Nat) : Int) = u := ⟨_, rfl⟩
  rw [hu] at hX hub si sh sl sf q1 k1 k2 sk hP
  have eN : n * (79228162514264337593543950336 * u) = 79228162514264337593543950336 * (n * u) := by grind
  rw [eN] at k1 k2 sk
  have hT : -(1083 * 79228162514264337593543950336 * u) ≤ sv t ∧ sv t ≤ 1083 * 79228162514264337593543950336 * u := by omega
  have q2 := addF_off kt.fin cf ks.fin.2 (1084 * 79228162514264337593543950336 * u) (by rw [sf]; omega)
  rw [sf] at q2
  have hN : -(1492 * u) ≤ n * u ∧ n * u ≤ 1492 * u := by omega
  have hn : -1492 ≤ n ∧ n ≤ 1492 := ⟨le_cancel (u := u) (by omega) (by omega), le_cancel (u := u) (by omega) (by omega)⟩
  have kk : Bd 1200 k := bd k fk (1492 * (79228162514264337593543950336 * u)) (by rw [sk]; omega) (by rw [hP]; omega)
  obtain ⟨o3, ka⟩ := mulF_B (c := 1330) kk kh (by omega) (by omega)
  obtain ⟨o4, kb⟩ := subF_B (kx.mono (k := 1330) (by omega) (by omega)) ka (by omega)
  obtain ⟨o5, kc⟩ := mulF_B (c := 1330) kk kl (by omega) (by omega)
  obtain ⟨o6, kr⟩ := subF_B kb (kc.mono (k := 1331) (by omega) (by omega)) (by omega)
  have skp : sv k = n * ((2 ^ K : Nat) : Int) := by rw [sk, hP, eN]
  have sh' : sv 4604418534311723008 = 54916777452589037098301915136 * ((2 ^ g : Nat) : Int) := by rw [sh, hu]
  have sl' : sv 4461442080421002358 = 15118436252839555072 * ((2 ^ g : Nat) : Int) := by rw [sl, hu]
  have q3 := mul_int_off fk ch hK skp sh' (by omega) hn ka.fin.2
  have q5 := mul_int_off fk cl hK skp sl' (by omega) hn kc.fin.2
  rw [hu] at q3 q5
  obtain ⟨a, ha⟩ : ∃ a, mulF k 4604418534311723008 = a := ⟨_, rfl⟩
  obtain ⟨c, hc⟩ : ∃ c, mulF k 4461442080421002358 = c := ⟨_, rfl⟩
  rw [ha] at o3 o4 o6 ka kb kr q3 er
  rw [hc] at o5 o6 kc kr q5 er
  have q4 := subF_off hx ka.fin kb.fin.2 (5968 * 79228162514264337593543950336 * u) (by omega)
  obtain ⟨b, hb⟩ : ∃ b, subF x a = b := ⟨_, rfl⟩
  rw [hb] at o4 o6 kb kr q4 er
  rw [← er] at o6 kr
  have q6 := subF_off kb.fin kc.fin (by rw [← er]; exact kr.fin.2) (5968 * 79228162514264337593543950336 * u) (by omega)
  rw [← er] at q6
  obtain ⟨N, hNN⟩ : ∃ N, n * u = N := ⟨_, rfl⟩
  rw [hNN] at q3 q5 k1 k2 hN
  rw [hk, ha, hc, hb, hr, ht]
  refine ⟨n, hn, o1, o2, fnan_of ks.fin, fnan_of fk, o3, o4, o5, o6, kr.fin, ?_, ?_, k3 (by omega) (by omega)⟩
  · rw [hP]; omega
  · rw [hP]; omega
def tnK (x : Nat) : Nat := itg .down (addF (mulF x 4603909380684499075) 4602678819172646912)
def tnR (x : Nat) : Nat := subF (subF x (mulF (tnK x) 4609753056924401664)) (mulF (tnK x) 4454258360616903473)
set_option exponentiation.threshold 2000 in
/-- What is left of an angle: 1 at most. -/
theorem tn_red {x K g : Nat} (hx : Fin64 x) (hK : K = 1074) (hg : g = 978) (hX : -(1048576 * ((2 ^ K : Nat) : Int)) ≤ sv x ∧ sv x ≤ 1048576 * ((2 ^ K : Nat) : Int)) :
    ∃ n : Int, (-2097152 ≤ n ∧ n ≤ 2097152) ∧ Ieee.double.mul x 4603909380684499075 = some (mulF x 4603909380684499075) ∧ Ieee.double.add (mulF x 4603909380684499075) 4602678819172646912 = some (addF (mulF x 4603909380684499075) 4602678819172646912) ∧ fnan (addF (mulF x 4603909380684499075) 4602678819172646912) = false ∧ fnan (tnK x) = false ∧
      Ieee.double.mul (tnK x) 4609753056924401664 = some (mulF (tnK x) 4609753056924401664) ∧ Ieee.double.sub x (mulF (tnK x) 4609753056924401664) = some (subF x (mulF (tnK x) 4609753056924401664)) ∧ Ieee.double.mul (tnK x) 4454258360616903473 = some (mulF (tnK x) 4454258360616903473) ∧
      Ieee.double.sub (subF x (mulF (tnK x) 4609753056924401664)) (mulF (tnK x) 4454258360616903473) = some (tnR x) ∧ Fin64 (tnR x) ∧ 1 * sv (tnR x) ≤ ((2 ^ K : Nat) : Int) ∧ -((2 ^ K : Nat) : Int) ≤ 1 * sv (tnR x) ∧
      (∀ W : World, (convert 22 3 (.float .f64 (tnK x))).run Try.prog W = .ok (.int .i64 n) W) := by
  obtain ⟨ci, _, si⟩ := mg_const (c := 4603909380684499075) (M := 5734161139222659) (d := 1021) (e := 43) (g := g) (by omega) (by omega) (by omega) (by omega) (by omega)
  obtain ⟨ch, _, sh⟩ := mg_const (c := 4609753056924401664) (M := 7074237751754752) (d := 1022) (e := 44) (g := g) (by omega) (by omega) (by omega) (by omega) (by omega)
  obtain ⟨cl, _, sl⟩ := mg_const (c := 4454258360616903473) (M := 4701928774853425) (d := 988) (e := 10) (g := g) (by omega) (by omega) (by omega) (by omega) (by omega)
  obtain ⟨cf, _, sf⟩ := mg_const (c := 4602678819172646912) (M := 4503599627370496) (d := 1021) (e := 43) (g := g) (by omega) (by omega) (by omega) (by omega) (by omega)
  rw [show ((5734161139222659 * 2 ^ 43 : Nat) : Int) = 50438214784932706851143811072 by decide] at si
  rw [show ((7074237751754752 * 2 ^ 44 : Nat) : Int) = 124451306651300767549811064832 by decide] at sh
  rw [show ((4701928774853425 * 2 ^ 10 : Nat) : Int) = 4814775065449907200 by decide] at sl
  rw [show ((4503599627370496 * 2 ^ 43 : Nat) : Int) = 39614081257132168796771975168 by decide] at sf
  have hKg : K = 96 + g := by omega
  have hP : ((2 ^ K : Nat) : Int) = 79228162514264337593543950336 * (2 ^ g : Nat) := by rw [hKg, Nat.pow_add, Int.natCast_mul]; rfl
  have hub : (1208925819614629174706176 : Int) ≤ (2 ^ g : Nat) := by
    have : 2 ^ 80 ≤ 2 ^ g := Nat.pow_le_pow_right (by omega) (by omega)
    have e : (2 : Nat) ^ 80 = 1208925819614629174706176 := by decide
    omega
  -- the crude bounds
  have hp : 2 ^ K = 79228162514264337593543950336 * 2 ^ g := by rw [hKg, Nat.pow_add]
  have bd : ∀ z : Nat, Fin64 z → ∀ t : Int, (-t ≤ sv z ∧ sv z ≤ t) → t ≤ 1099511627776 * ((2 ^ K : Nat) : Int) → Bd 1200 z := by
    intro z hz t ht hb
    refine ⟨hz.1, ?_, by omega⟩
    have h1 := sv_abs z
    have h2 : (2 : Nat) ^ 1200 = 2 ^ 126 * 2 ^ K := by rw [← Nat.pow_add, show 126 + K = 1200 by omega]
    have h3 : 1099511627776 * 2 ^ K ≤ 2 ^ 126 * 2 ^ K := Nat.mul_le_mul_right _ (by decide)
    rw [h2]
    omega
  have kx : Bd 1200 x := bd x hx _ hX (by rw [hP]; omega)
  have ki : Bd 1200 4603909380684499075 := bd _ ci (50438214784932706851143811072 * (2 ^ g : Nat)) (by rw [si]; omega) (by rw [hP]; omega)
  have kh : Bd 1200 4609753056924401664 := bd _ ch (124451306651300767549811064832 * (2 ^ g : Nat)) (by rw [sh]; omega) (by rw [hP]; omega)
  have kl : Bd 1200 4454258360616903473 := bd _ cl (4814775065449907200 * (2 ^ g : Nat)) (by rw [sl]; omega) (by rw [hP]; omega)
  have kf : Bd 1200 4602678819172646912 := bd _ cf (39614081257132168796771975168 * (2 ^ g : Nat)) (by rw [sf]; omega) (by rw [hP]; omega)
  obtain ⟨o1, kt⟩ := mulF_B (c := 1330) kx ki (by omega) (by omega)
  obtain ⟨o2, ks⟩ := addF_B kt (kf.mono (k := 1330) (by omega) (by omega)) (by omega)
  obtain ⟨n, fk, sk, k1, k2, k3⟩ := floor_sv ks.fin hK
  have q1 := mul_const_off hx ci hK hKg si (by omega) hX kt.fin.2
  obtain ⟨t, ht⟩ : ∃ t, mulF x 4603909380684499075 = t := ⟨_, rfl⟩
  rw [ht] at o1 o2 kt ks fk sk k1 k2 k3 q1
  have ek : tnK x = itg .down (addF t 4602678819172646912) := by unfold tnK; rw [ht]
  have er : tnR x = subF (subF x (mulF (tnK x) 4609753056924401664)) (mulF (tnK x) 4454258360616903473) := rfl
  rw [← ek] at fk sk k3
  obtain ⟨k, hk⟩ : ∃ k, tnK x = k := ⟨_, rfl⟩
  obtain ⟨r, hr⟩ : ∃ r, tnR x = r := ⟨_, rfl⟩
  rw [hr, hk] at er
  rw [hk] at fk sk k3
  rw [hP] at hX q1 k1 k2 sk
  obtain ⟨u, hu⟩ : ∃ u : Int, ((2 ^ g : Nat) : Int) = u := ⟨_, rfl⟩
  rw [hu] at hX hub si sh sl sf q1 k1 k2 sk hP
  have eN : n * (79228162514264337593543950336 * u) = 79228162514264337593543950336 * (n * u) := by grind
  rw [eN] at k1 k2 sk
  have hT : -(1048576 * 79228162514264337593543950336 * u) ≤ sv t ∧ sv t ≤ 1048576 * 79228162514264337593543950336 * u := by omega
  have q2 := addF_off kt.fin cf ks.fin.2 (1048577 * 79228162514264337593543950336 * u) (by rw [sf]; omega)
  rw [sf] at q2
  have hN : -(2097152 * u) ≤ n * u ∧ n * u ≤ 2097152 * u := by omega
  have hn : -2097152 ≤ n ∧ n ≤ 2097152 := ⟨le_cancel (u := u) (by omega) (by omega), le_cancel (u := u) (by omega) (by omega)⟩
  have kk : Bd 1200 k := bd k fk (2097152 * (79228162514264337593543950336 * u)) (by rw [sk]; omega) (by rw [hP]; omega)
  obtain ⟨o3, ka⟩ := mulF_B (c := 1330) kk kh (by omega) (by omega)
  obtain ⟨o4, kb⟩ := subF_B (kx.mono (k := 1330) (by omega) (by omega)) ka (by omega)
  obtain ⟨o5, kc⟩ := mulF_B (c := 1330) kk kl (by omega) (by omega)
  obtain ⟨o6, kr⟩ := subF_B kb (kc.mono (k := 1331) (by omega) (by omega)) (by omega)
  have skp : sv k = n * ((2 ^ K : Nat) : Int) := by rw [sk, hP, eN]
  have sh' : sv 4609753056924401664 = 124451306651300767549811064832 * ((2 ^ g : Nat) : Int) := by rw [sh, hu]
  have sl' : sv 4454258360616903473 = 4814775065449907200 * ((2 ^ g : Nat) : Int) := by rw [sl, hu]
  have q3 := mul_int_off fk ch hK skp sh' (by omega) hn ka.fin.2
  have q5 := mul_int_off fk cl hK skp sl' (by omega) hn kc.fin.2
  rw [hu] at q3 q5
  obtain ⟨a, ha⟩ : ∃ a, mulF k 4609753056924401664 = a := ⟨_, rfl⟩
  obtain ⟨c, hc⟩ : ∃ c, mulF k 4454258360616903473 = c := ⟨_, rfl⟩
  rw [ha] at o3 o4 o6 ka kb kr q3 er
  rw [hc] at o5 o6 kc kr q5 er
  have q4 := subF_off hx ka.fin kb.fin.2 (8388608 * 79228162514264337593543950336 * u) (by omega)
  obtain ⟨b, hb⟩ : ∃ b, subF x a = b := ⟨_, rfl⟩
  rw [hb] at o4 o6 kb kr q4 er
  rw [← er] at o6 kr
  have q6 := subF_off kb.fin kc.fin (by rw [← er]; exact kr.fin.2) (8388608 * 79228162514264337593543950336 * u) (by omega)
  rw [← er] at q6
  obtain ⟨N, hNN⟩ : ∃ N, n * u = N := ⟨_, rfl⟩
  rw [hNN] at q3 q5 k1 k2 hN
  rw [hk, ha, hc, hb, hr, ht]
  refine ⟨n, hn, o1, o2, fnan_of ks.fin, fnan_of fk, o3, o4, o5, o6, kr.fin, ?_, ?_, k3 (by omega) (by omega)⟩
  · rw [hP]; omega
  · rw [hP]; omega
end Go.Proofs.Ytbinpcoaghpcdaa
