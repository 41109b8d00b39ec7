/-
  Contract of Times of the reference. Contracts of Bits of the program and of the reference, and of the two orders of cmp. Contract of shiftLeft. Contract of shiftRight. Plain lemmas: how long a number times a power of 2 is. Contract of Shl of the program. Contract of Shl of the program: its last way. Plain lemmas: a number divided by a power of 2, and what is lost. Contract of loses. Contract of Shr of the program. Plain lemmas for Shr of the reference: bit by bit, and word by word. Contract of Shr of the reference.
-/
import Derived.Test.YtacmbbjmcdbcnaaRA
import Derived.Lib.BitFns
import Derived.Test.YtacmbbjmcdbcnaaPlain
import Derived.Test.YtacmbbjmcdbcnaaOr
import Derived.Deep.RegionWith
import Derived.Lib.ItoaNum
namespace Go.Proofs.Ytacmbbjmcdbcnaa
open Go.RowKit
/-- What stands in the row of a product of the reference when i words of a have been gone through. -/
structure MulU (a b : List Nat) (i : Nat) (P : List Nat) : Prop where
  len : P.length = a.length + b.length + 1
  ws : Ws P
  zeros : ∀ j, i + b.length ≤ j → P.getD j 0 = 0
  sum : val (P.take (i + b.length)) = val (a.take i) * val b
theorem MulU.start (a b : List Nat) : MulU a b 0 (List.replicate (a.length + b.length + 1) 0) :=
  ⟨List.length_replicate, Ws.zeros _, fun j _ => getD_zeros _ j, by rw [List.take_replicate, val_zeros]; simp [val]⟩
theorem MulU.next {a b : List Nat} {i : Nat} {P S : List Nat} {q : Nat} (h : MulU a b i P) (hi : i < a.length) (hS : AddT P i b (a.getD i 0) b.length S q) : MulU a b (i + 1) (S.set (i + b.length) q) := by
  obtain ⟨h1, h2, h3, h4⟩ := h
  obtain ⟨g1, g2, g3, g4, g5⟩ := hS
  refine ⟨by rw [List.length_set]; omega, g2.set g5, fun j hj => ?_, ?_⟩
  · rw [getD_set_ne (by omega), g3 j (by omega), h3 j (by omega)]
  · have hb : b.take b.length = b := List.take_of_length_le (Nat.le_refl _)
    rw [hb] at g4
    have e1 : (S.set (i + b.length) q).take (i + 1 + b.length) = (S.set (i + b.length) q).take (i + b.length + 1) := by congr 1; omega
    rw [e1, val_take_succ _ _ (by rw [List.length_set]; omega), getD_set_eq (by omega), val_take_succ a i hi]
    rw [take_congr (l := S.set (i + b.length) q) (m := S) (i + b.length) (by rw [List.length_set]; omega) (by omega) (fun j hj => getD_set_ne (by omega))]
    rw [val_part S i b.length (by omega)]
    rw [take_congr (l := S) (m := P) i (by omega) (by omega) (fun j hj => g3 j (by omega))]
    rw [val_part P i b.length (by omega)] at h4
    rw [Nat.pow_add]
    have e2 : val (P.take i) + 4294967296 ^ i * val ((S.drop i).take b.length) + 4294967296 ^ i * 4294967296 ^ b.length * q = val (P.take i) + 4294967296 ^ i * (val ((S.drop i).take b.length) + 4294967296 ^ b.length * q) := by grind
    rw [e2, g4]
    grind
theorem MulU.whole {a b : List Nat} {P : List Nat} (h : MulU a b a.length P) : val P = val a * val b := by
  rw [val_take_zeros P (a.length + b.length) (fun j hj => h.zeros j hj), h.sum, List.take_of_length_le (Nat.le_refl _)]
end Go.Proofs.Ytacmbbjmcdbcnaa
namespace Go.Proofs.Ytacmbbjmcdbcnaa
open Go.RowKit
/-- How many bits a list of words has. -/
def btl (l : List Nat) : Nat := if nrm l = [] then 0 else 32 * ((nrm l).length - 1) + Lib.bitLen (l.getD ((nrm l).length - 1) 0)
theorem bitLen_zero : Lib.bitLen 0 = 0 := by decide
theorem bitLen_le32 (x : Nat) (h : x < 4294967296) : Lib.bitLen x ≤ 32 := Lib.bitLen_le x 32 (by omega) h
set_option maxHeartbeats 2000000 in
theorem rbits_any (A : Option Addr) (n c : Nat) (l : List Nat) (B : Nat) (w : World) (hn : l.length = n) (hc : n ≤ c) (hm : n ≤ 35184372088832) (h : RW w B A l) :
    Calls Try.prog 111 #[.slice A n c] w fun e w' => e = .returned (.int .i64 (btl l : Nat)) ∧ Below w.heap.size w w' := by
  have c1 := (rnorm_any A n c l B w hn hc hm h).mono (fun e w' x => SlPost.of h.1.nrm x)
  by_cases h0 : nrm l = []
  · rw [h0] at c1
    have e : btl l = 0 := by unfold btl; rw [if_pos h0]
    rw [e]
    clear hn hc hm h h0 e
    go_enter Try.func111, Try.ntmps111
    go_wp2_with fail
    refine c1.mono ?_
    rintro e w' ⟨v, rfl, ⟨A2, c2, rfl, _, _⟩, hb⟩
    go_wp2
    go_ret
    exact ⟨rfl, hb⟩
  · have hle := nrm_len l
    have hp : 0 < (nrm l).length := List.length_pos_iff.2 h0
    have hx := h.1.getD ((nrm l).length - 1)
    have e : btl l = 32 * ((nrm l).length - 1) + Lib.bitLen (l.getD ((nrm l).length - 1) 0) := by unfold btl; rw [if_neg h0]
    obtain ⟨m, hm0⟩ : ∃ m, (nrm l).length = m + 1 := ⟨(nrm l).length - 1, by omega⟩
    have hg : (nrm l).getD m 0 = l.getD m 0 := by
      rw [nrm_take l, List.getD_eq_getElem?_getD, List.getD_eq_getElem?_getD, List.getElem?_take, if_pos (by omega)]
    rw [hm0, Nat.add_sub_cancel] at e hx
    have h1 : (m : Int) ≤ 35184372088832 := by omega
    have HM := Lib.hid hm0
    have HG := Lib.hid hg
    have HE := Lib.hid e
    obtain ⟨u, hu⟩ : ∃ u, l.getD m 0 = u := ⟨_, rfl⟩
    have HU := Lib.hid hu
    rw [hu] at hx
    have HX := Lib.hid hx
    clear hn hc hm h h0 e hle hp hm0 hg hu hx
    go_enter Try.func111, Try.ntmps111
    go_wp2_with fail
    refine c1.mono ?_
    rintro e w' ⟨v, rfl, ⟨A2, c2, rfl, _, hr⟩, hb⟩
    obtain ⟨b, off, rfl, _, hcell⟩ := hr.2 (by rw [HM.out]; omega)
    have hcl := hcell m _ (getD_some (by rw [HM.out]; omega))
    rw [HG.out, HU.out] at hcl
    rw [HM.out]
    clear hcell hr c1
    go_wp2
    go_loop [4, 5] (fun i t => ∃ k x : Nat, i = .int .i64 ((k : Nat) : Int) ∧ t = .int .u32 (x : Nat) ∧ Hid (x < 4294967296) ∧ k ≤ 32 * m + 32 ∧ Hid (k + Lib.bitLen x = 32 * m + Lib.bitLen u)) (fun _ t => (intOf t).toNat)
    case atStart => exact ⟨32 * m, u, by go_num, rfl, HX, by omega, Lib.hid rfl⟩
    case round =>
      obtain ⟨k, x, rfl, rfl, hx32, hk, HK⟩ := hrel
      by_cases h0 : x = 0
      · have HZ := Lib.hid (show k = btl l by have := HK.out; rw [h0, bitLen_zero] at this; rw [HE.out, HU.out]; omega)
        subst h0
        go_wp2
        go_ret
        exact ⟨ret_i64 (by rw [HZ.out]), hb⟩
      · have h2 : (0 : Int) < (x : Int) := by omega
        have HK2 := Lib.hid (show k + 1 + Lib.bitLen (x / 2) = 32 * m + Lib.bitLen u by
          have := HK.out
          rw [Lib.bitLen_half x h0 (by have := hx32.out; omega)] at this
          omega)
        have hk1 : k + 1 ≤ 32 * m + 32 := by have := HK2.out; have := bitLen_le32 u HX.out; omega
        have HX2 := Lib.hid (show x / 2 < 4294967296 by have := hx32.out; omega)
        have hk2 : (k : Int) ≤ 1125899906842656 := by omega
        clear h0
        go_wp2
        go_round
        case rel => exact ⟨k + 1, x / 2, by go_num, by go_num, HX2, hk1, HK2⟩
        case measure => simp [intOf]; omega
end Go.Proofs.Ytacmbbjmcdbcnaa
namespace Go.Proofs.Ytacmbbjmcdbcnaa
open Go.RowKit
theorem or_cast (x y P Q : Nat) (hxy : x * P % 4294967296 < 4294967296) (hq : y / Q < 4294967296) : bits BinOp.or IntKind.u32 ((x : Int) * (P : Nat) % 4294967296) ((y : Int) / (Q : Nat)) = ((x * P % 4294967296 ||| y / Q : Nat) : Int) := by
  rw [← or_u32 _ _ hxy hq]; rfl
theorem or_shl (x y s : Nat) (hs : s < 32) (hy : y < 4294967296) : bits BinOp.or IntKind.u32 ((x : Int) * 2 ^ s % 4294967296) ((y : Int) / 2 ^ (32 - s)) = ((x * 2 ^ s % 4294967296 + y / 2 ^ (32 - s) : Nat) : Int) := by
  rw [← or_low x y s (by omega) hy, ← or_cast x y _ _ (Nat.mod_lt _ (by omega)) (Nat.lt_of_le_of_lt (Nat.div_le_self _ _) hy), Int.natCast_pow, Int.natCast_pow]
  rfl
theorem or_zero (x s : Nat) : bits BinOp.or IntKind.u32 ((x : Int) * 2 ^ s % 4294967296) 0 = ((x * 2 ^ s % 4294967296 + 0 : Nat) : Int) := by
  have h : x * 2 ^ s % 4294967296 < 4294967296 := Nat.mod_lt _ (by omega)
  have e : ((x : Int) * 2 ^ s % 4294967296) = ((x * 2 ^ s % 4294967296 : Nat) : Int) := by rw [Int.natCast_emod, Int.natCast_mul, Int.natCast_pow]; rfl
  rw [e, show (0 : Int) = ((0 : Nat) : Int) from rfl, or_u32 _ _ h (by omega), Nat.or_zero, Nat.add_zero]
end Go.Proofs.Ytacmbbjmcdbcnaa
namespace Go.Proofs.Ytacmbbjmcdbcnaa
open Go.RowKit
theorem or_shr (x y s : Nat) (hs : s ≤ 32) (hx : x < 4294967296) : bits BinOp.or IntKind.u32 ((x : Int) / 2 ^ s) ((y : Int) * 2 ^ (32 - s) % 4294967296) = ((y * 2 ^ (32 - s) % 4294967296 + x / 2 ^ s : Nat) : Int) := by
  have h := or_low y x (32 - s) (by omega) hx
  rw [show 32 - (32 - s) = s by omega] at h
  have h1 : x / 2 ^ s < 4294967296 := Nat.lt_of_le_of_lt (Nat.div_le_self _ _) hx
  have h2 : y * 2 ^ (32 - s) % 4294967296 < 4294967296 := Nat.mod_lt _ (by omega)
  rw [← h, Nat.or_comm, ← or_u32 _ _ h1 h2, Int.natCast_ediv, Int.natCast_emod, Int.natCast_mul, Int.natCast_pow, Int.natCast_pow]
  rfl
end Go.Proofs.Ytacmbbjmcdbcnaa
namespace Go.Proofs.Ytacmbbjmcdbcnaa
theorem pow32 (m : Nat) : 4294967296 ^ m = 2 ^ (32 * m) := by rw [Nat.pow_mul]
theorem btl_sums {B P v t u L : Nat} (e : v = t + B * u) (h1 : t < B) (h2 : P ≤ u) (h3 : u < L) : B * P ≤ v ∧ v < B * L := by
  have a := Nat.mul_le_mul_left B h2
  have b : B * (u + 1) ≤ B * L := Nat.mul_le_mul_left B h3
  rw [Nat.mul_add, Nat.mul_one] at b
  omega
theorem btl_bounds {l : List Nat} (h : Ws l) (h0 : nrm l ≠ []) : 2 ^ (btl l - 1) ≤ val l ∧ val l < 2 ^ btl l ∧ 0 < btl l := by
  have hp : 0 < (nrm l).length := List.length_pos_iff.2 h0
  have hle := nrm_len l
  have hge := val_ge (l := l) h0
  obtain ⟨m, hm⟩ : ∃ m, (nrm l).length = m + 1 := ⟨(nrm l).length - 1, by omega⟩
  have e : val l = val (l.take m) + 4294967296 ^ m * l.getD m 0 := by
    rw [← val_take_next, ← hm, ← nrm_take, val_nrm]
  have h1 : val (l.take m) < 4294967296 ^ m := by
    have := val_lt (h.take m)
    rwa [List.length_take, Nat.min_eq_left (by omega)] at this
  have eb : btl l = 32 * m + Lib.bitLen (l.getD m 0) := by unfold btl; rw [if_neg h0, hm, Nat.add_sub_cancel]
  have hu := h.getD m
  rw [hm, Nat.add_sub_cancel] at hge
  obtain ⟨u, hu0⟩ : ∃ u, l.getD m 0 = u := ⟨_, rfl⟩
  rw [hu0] at e eb hu
  have hz : u ≠ 0 := by intro z; rw [z, Nat.mul_zero] at e; omega
  obtain ⟨b1, b2, b3⟩ := Lib.bitLenAux_bounds 64 u (by omega) hz
  change btl l = 32 * m + Lib.bitLenAux 64 u at eb
  rw [eb]
  generalize Lib.bitLenAux 64 u = L at *
  obtain ⟨c1, c2⟩ := btl_sums e h1 b2 b3
  rw [pow32, ← Nat.pow_add] at c1 c2
  refine ⟨?_, c2, by omega⟩
  rw [show 32 * m + L - 1 = 32 * m + (L - 1) by omega]
  exact c1
theorem btl_le {l : List Nat} (h : Ws l) : btl l ≤ 32 * (nrm l).length := by
  unfold btl
  split
  · omega
  · next h0 =>
    have hp : 0 < (nrm l).length := List.length_pos_iff.2 h0
    have := bitLen_le32 _ (h.getD ((nrm l).length - 1))
    omega
theorem lng_ge {v k : Nat} (hk : 32768 ≤ k) (h : 2 ^ k ≤ v) : lngB v = true := by
  unfold lngB
  refine decide_eq_true ?_
  rcases Nat.lt_or_ge 1024 (wds v).length with h1 | h1
  · exact h1
  · have h2 := wds_lt v
    rw [pow32] at h2
    have h3 : 2 ^ (32 * (wds v).length) ≤ 2 ^ k := Nat.pow_le_pow_right (by omega) (by omega)
    exact absurd (Nat.lt_of_lt_of_le h2 (Nat.le_trans h3 h)) (Nat.lt_irrefl _)
theorem shl_long {l : List Nat} {n : Nat} (h : Ws l) (h0 : nrm l ≠ []) (hn : 32768 < btl l + n) : lngB (val l * 2 ^ n) = true := by
  obtain ⟨h1, _, h3⟩ := btl_bounds h h0
  refine lng_ge (k := btl l - 1 + n) (by omega) ?_
  rw [Nat.pow_add]
  exact Nat.mul_le_mul_right _ h1
theorem shl_long2 {v n : Nat} (h0 : v ≠ 0) (hn : 32768 < n) : lngB (v * 2 ^ n) = true :=
  lng_ge (k := n) (by omega) (Nat.le_mul_of_pos_left _ (by omega))
theorem ShlP.all {o n s : Nat} {b S : List Nat} (h : ShlP (List.replicate (o + n) 0) o b s n S) (hn : b.length < n) : val S = val b * 2 ^ (32 * o + s) := by
  have hl := h.len
  rw [List.length_replicate] at hl
  have e1 : val S = val (S.take (o + n)) := by rw [List.take_of_length_le (by omega)]
  have e2 : S.take o = (List.replicate (o + n) 0).take o := take_congr o (by omega) (by rw [List.length_replicate]; omega) (fun j hj => h.far j (Or.inl hj))
  rw [e1, val_part S o n (by omega), h.whole hn, e2, List.take_replicate, val_zeros, pow32, Nat.zero_add, Nat.pow_add]
  grind
end Go.Proofs.Ytacmbbjmcdbcnaa
namespace Go.Proofs.Ytacmbbjmcdbcnaa
open Go.RowKit
/-- What Shl tells. -/
def ShlQ (v : Nat) (n : Int) (w : World) (e : Ending) (w' : World) : Prop := if lngB v = true then ErrPost 3 w e w' else if n < 0 then ErrPost 1 w e w' else NatPost (v * 2 ^ n.toNat) w e w'
end Go.Proofs.Ytacmbbjmcdbcnaa
namespace Go.Proofs.Ytacmbbjmcdbcnaa
open Go.RowKit
end Go.Proofs.Ytacmbbjmcdbcnaa
namespace Go.Proofs.Ytacmbbjmcdbcnaa
open Go.RowKit
theorem split_at (l : List Nat) (o : Nat) (ho : o ≤ l.length) : val l = val (l.take o) + 4294967296 ^ o * val (l.drop o) := by
  have h := val_part l o (l.length - o) ho
  rw [show o + (l.length - o) = l.length by omega, List.take_length, List.take_of_length_le (l := l.drop o) (by rw [List.length_drop]; omega)] at h
  exact h
theorem take_lt {l : List Nat} (h : Ws l) (o : Nat) (ho : o ≤ l.length) : val (l.take o) < 4294967296 ^ o := by
  have := val_lt (h.take o)
  rwa [List.length_take, Nat.min_eq_left ho] at this
theorem drop_div {l : List Nat} (h : Ws l) (o s : Nat) (ho : o ≤ l.length) : val l / 2 ^ (32 * o + s) = val (l.drop o) / 2 ^ s := by
  have h1 := take_lt h o ho
  rw [Nat.pow_add, ← pow32, ← Nat.div_div_eq_div_mul, split_at l o ho, Nat.add_mul_div_left _ _ (Nat.pow_pos (by omega)), Nat.div_eq_of_lt h1, Nat.zero_add]
theorem mod_parts {B T D P : Nat} (hT : T < B) (hP : 0 < P) : (T + B * D) % (B * P) = T + B * (D % P) := by
  have e : T + B * D = (T + B * (D % P)) + B * P * (D / P) := by
    have := Nat.div_add_mod D P
    have e2 : B * (P * (D / P) + D % P) = B * D := by rw [this]
    grind
  rw [e, Nat.add_mul_mod_self_left]
  refine Nat.mod_eq_of_lt ?_
  have h1 : B * (D % P + 1) ≤ B * P := Nat.mul_le_mul_left _ (Nat.mod_lt _ hP)
  rw [Nat.mul_add, Nat.mul_one] at h1
  omega
theorem head_mod {l : List Nat} {s : Nat} (hs : s ≤ 32) : val l % 2 ^ s = l.getD 0 0 % 2 ^ s := by
  cases l with
  | nil => simp [val]
  | cons x r =>
    simp only [val, List.getD_cons_zero]
    rw [← pow_parts hs, Nat.mul_assoc, Nat.add_mul_mod_self_left]
theorem drop_mod {l : List Nat} (h : Ws l) (o s : Nat) (ho : o ≤ l.length) (hs : s ≤ 32) : val l % 2 ^ (32 * o + s) = val (l.take o) + 4294967296 ^ o * (l.getD o 0 % 2 ^ s) := by
  rw [Nat.pow_add, ← pow32]
  conv => lhs; rw [split_at l o ho]
  rw [mod_parts (take_lt h o ho) (Nat.two_pow_pos s), head_mod hs, getD_drop, Nat.add_zero]
theorem zeros_take {l : List Nat} {k : Nat} (h : ∀ j, j < k → l.getD j 0 = 0) : val (l.take k) = 0 := val_all_zero fun j => by
  rcases Nat.lt_or_ge j k with hj | hj
  · rw [getD_take hj]; exact h j hj
  · rw [List.getD_eq_getElem?_getD, List.getElem?_take, if_neg (by omega)]; rfl
theorem loss_early {l : List Nat} (h : Ws l) (o s k : Nat) (ho : o ≤ l.length) (hs : s ≤ 32) (hk : k < o) (hx : l.getD k 0 ≠ 0) : decide (val l % 2 ^ (32 * o + s) ≠ 0) = true := by
  refine decide_eq_true ?_
  rw [drop_mod h o s ho hs]
  have e : val (l.take o) ≠ 0 := by
    intro z
    have h1 := nrm_val_zero z
    have h2 := val_part l k (o - k) (by omega)
    rw [show k + (o - k) = o by omega, z] at h2
    have h3 := val_part_succ l k 0 (by omega)
    have h4 : val ((l.drop k).take (o - k)) = 0 := by
      have hp : 0 < 4294967296 ^ k := Nat.pow_pos (by omega)
      rcases Nat.eq_zero_or_pos (val ((l.drop k).take (o - k))) with h5 | h5
      · exact h5
      · have := Nat.mul_pos hp h5; omega
    obtain ⟨m, hm⟩ : ∃ m, o - k = m + 1 := ⟨o - k - 1, by omega⟩
    rw [hm] at h4
    have h6 := List.getD_eq_getElem?_getD (l := (l.drop k).take (m + 1)) (i := 0) (a := 0)
    have h7 : ((l.drop k).take (m + 1)).getD 0 0 = l.getD k 0 := by rw [getD_take (by omega), getD_drop, Nat.add_zero]
    cases hc : (l.drop k).take (m + 1) with
    | nil => rw [hc] at h7; simp at h7; exact hx h7.symm
    | cons x r =>
      rw [hc] at h4 h7
      simp only [val] at h4
      simp only [List.getD_cons_zero] at h7
      omega
  omega
theorem loss_late {l : List Nat} (h : Ws l) (o s : Nat) (ho : o ≤ l.length) (hs : s ≤ 32) (hz : ∀ j, j < o → l.getD j 0 = 0) : decide (val l % 2 ^ (32 * o + s) ≠ 0) = decide (l.getD o 0 * 2 ^ (32 - s) % 4294967296 ≠ 0) := by
  rw [drop_mod h o s ho hs, zeros_take hz, Nat.zero_add]
  have h1 := mul_mod_low (l.getD o 0) (32 - s) (by omega)
  rw [show 32 - (32 - s) = s by omega] at h1
  rw [h1]
  have hp : 0 < 4294967296 ^ o := Nat.pow_pos (by omega)
  have hq : 0 < 2 ^ (32 - s) := Nat.two_pow_pos _
  refine decide_eq_decide.2 ?_
  constructor
  · intro a b
    rcases Nat.mul_eq_zero.1 b with b | b
    · omega
    · rw [b, Nat.mul_zero] at a; exact a rfl
  · intro a b
    rcases Nat.mul_eq_zero.1 b with b | b
    · omega
    · rw [b, Nat.mul_zero] at a; exact a rfl
theorem RW.drop {w : World} {B b off : Nat} {l : List Nat} (h : RW w B (some ⟨b, off, none⟩) l) (o : Nat) (ho : o < l.length) : RW w B (some ⟨b, off + o, none⟩) (l.drop o) := ⟨h.1.drop o, fun _ => by
  obtain ⟨b2, off2, he, hb, hc⟩ := h.2 (by omega)
  cases he
  refine ⟨b, off + o, rfl, hb, fun k u hu => ?_⟩
  rw [List.getElem?_drop] at hu
  rw [show off + o + k = off + (o + k) by omega]
  exact hc _ u hu⟩
end Go.Proofs.Ytacmbbjmcdbcnaa
namespace Go.Proofs.Ytacmbbjmcdbcnaa
open Go.RowKit
theorem sh_ne (x t : Nat) : (((x : Int) * 2 ^ t % 4294967296) != 0) = decide (x * 2 ^ t % 4294967296 ≠ 0) := by
  have e : ((x : Int) * 2 ^ t % 4294967296) = ((x * 2 ^ t % 4294967296 : Nat) : Int) := by rw [Int.natCast_emod, Int.natCast_mul, Int.natCast_pow]; rfl
  rw [e]
  by_cases h : x * 2 ^ t % 4294967296 = 0
  · rw [h]; rfl
  · rw [decide_eq_true h]
    simp only [bne_iff_ne, ne_eq]
    omega
end Go.Proofs.Ytacmbbjmcdbcnaa
namespace Go.Proofs.Ytacmbbjmcdbcnaa
open Go.RowKit
/-- What Shr tells: a quotient, and whether something is lost. -/
def ShrQ (v q : Nat) (w : World) (e : Ending) (w' : World) : Prop :=
  ∃ A n c, e = .returned (.tuple #[.slice A n c, .bool (decide (v % 2 ^ q ≠ 0))]) ∧ n = (wds (v / 2 ^ q)).length ∧ n ≤ c ∧ RW w' w'.heap.size A (wds (v / 2 ^ q)) ∧ Below w.heap.size w w'
theorem ShrQ.same {v : Nat} {w w' : World} {A : Option Addr} {n c : Nat} (hn : n = (wds v).length) (hc : n ≤ c) (hr : RW w' w'.heap.size A (wds v)) (hb : Below w.heap.size w w') : ShrQ v 0 w (.returned (.tuple #[.slice A n c, .bool false])) w' :=
  ⟨A, n, c, by simp [Nat.mod_one], by simpa using hn, hc, by simpa using hr, hb⟩
theorem ShrQ.none {v q : Nat} {w w' : World} {b : Bool} (hv : v < 2 ^ q) (hb : b = decide (v ≠ 0)) (hw : Below w.heap.size w w') : ShrQ v q w (.returned (.tuple #[.slice none 0 0, .bool b])) w' :=
  ⟨Option.none, 0, 0, by rw [Nat.mod_eq_of_lt hv, hb], by rw [Nat.div_eq_of_lt hv]; rfl, Nat.le_refl _, by rw [Nat.div_eq_of_lt hv]; exact RW.nil _ _ _, hw⟩
end Go.Proofs.Ytacmbbjmcdbcnaa
namespace Go.Proofs.Ytacmbbjmcdbcnaa
theorem bit_next (v k : Nat) : decide (v % 2 ^ (k + 1) ≠ 0) = (decide (v % 2 ^ k ≠ 0) || decide (v / 2 ^ k % 2 = 1)) := by
  have h := Nat.mod_pow_succ (b := 2) (x := v) (k := k)
  have hp : 0 < 2 ^ k := Nat.two_pow_pos k
  rw [h, ← Bool.decide_or]
  refine decide_eq_decide.2 ?_
  have h2 : v / 2 ^ k % 2 = 0 ∨ v / 2 ^ k % 2 = 1 := by omega
  rcases h2 with h2 | h2
  · rw [h2, Nat.mul_zero]; omega
  · rw [h2, Nat.mul_one]; omega
theorem even_mod {x q R : Nat} (hq : q % 2 = 0) : (x + q * R) % 2 = x % 2 := by
  obtain ⟨k, rfl⟩ : ∃ k, q = 2 * k := ⟨q / 2, by omega⟩
  rw [Nat.mul_assoc, Nat.add_mul_mod_self_left]
theorem bit_word {l : List Nat} (h : Ws l) (j r : Nat) (hj : j ≤ l.length) (hr : r < 32) : val l / 2 ^ (32 * j + r) % 2 = l.getD j 0 / 2 ^ r % 2 := by
  rw [drop_div h j r hj]
  have e : l.getD j 0 = (l.drop j).getD 0 0 := by rw [getD_drop, Nat.add_zero]
  rw [e]
  cases l.drop j with
  | nil => simp [val]
  | cons x t =>
    simp only [val, List.getD_cons_zero]
    rw [← pow_parts (by omega : r ≤ 32), Nat.mul_assoc, Nat.add_mul_div_left _ _ (Nat.two_pow_pos r)]
    refine even_mod ?_
    obtain ⟨k, hk⟩ : ∃ k, 32 - r = k + 1 := ⟨31 - r, by omega⟩
    rw [hk, Nat.pow_succ]; omega
theorem word_pair (x y s : Nat) (hx : x < 4294967296) (hs : s < 32) : (x ||| y * 4294967296) = x + y * 4294967296 ∧ (x + y * 4294967296) / 2 ^ s % 4294967296 = y * 2 ^ (32 - s) % 4294967296 + x / 2 ^ s := by
  refine ⟨?_, ?_⟩
  · have := Nat.two_pow_add_eq_or_of_lt (i := 32) hx y
    rw [Nat.or_comm, Nat.mul_comm y, show 4294967296 = 2 ^ 32 from rfl, ← this, Nat.add_comm]
  · have h1 := sum_low y x (32 - s) (by omega) hx
    rw [show 32 - (32 - s) = s by omega] at h1
    have h2 : (x + y * 4294967296) / 2 ^ s = x / 2 ^ s + y * 2 ^ (32 - s) := by
      rw [← pow_parts (by omega : s ≤ 32), show y * (2 ^ s * 2 ^ (32 - s)) = 2 ^ s * (y * 2 ^ (32 - s)) by grind, Nat.add_mul_div_left _ _ (Nat.two_pow_pos s)]
    rw [h2]
    generalize y * 2 ^ (32 - s) = X at *
    generalize x / 2 ^ s = Z at *
    omega
/-- The words of d divided by 2^s, one appended to the other. -/
structure RsT (d : List Nat) (s k : Nat) (S : List Nat) : Prop where
  len : S.length = k
  ws : Ws S
  sum : 2 ^ s * val S + d.getD 0 0 % 2 ^ s = val (d.take k) + 4294967296 ^ k * (d.getD k 0 % 2 ^ s)
theorem RsT.start (d : List Nat) (s : Nat) : RsT d s 0 [] := ⟨rfl, Ws.nil, by simp [val]⟩
theorem RsT.next {d : List Nat} {s k : Nat} {S : List Nat} (h : RsT d s k S) (hd : Ws d) (hs : s ≤ 32) : RsT d s (k + 1) (S ++ [shrW d s k]) := by
  obtain ⟨h1, h2, h4⟩ := h
  refine ⟨by rw [List.length_append, h1]; rfl, h2.append (Ws.cons (shrW_lt hd s k hs) Ws.nil), ?_⟩
  rw [val_snoc, h1, val_take_next d k]
  have e := shrW_times d s k hs
  rw [Nat.pow_succ]
  generalize 4294967296 ^ k = K at *
  generalize shrW d s k = W at *
  have e2 : K * (2 ^ s * W + d.getD k 0 % 2 ^ s) = K * (d.getD k 0 + 4294967296 * (d.getD (k + 1) 0 % 2 ^ s)) := by rw [e]
  grind
theorem RsT.whole {d : List Nat} {s : Nat} {S : List Nat} (h : RsT d s d.length S) : val S = val d / 2 ^ s := by
  have h4 := h.sum
  have e : d.getD d.length 0 = 0 := by rw [List.getD_eq_getElem?_getD, List.getElem?_eq_none (Nat.le_refl _)]; rfl
  rw [e, Nat.zero_mod, Nat.mul_zero, Nat.add_zero, List.take_of_length_le (Nat.le_refl _)] at h4
  rw [← h4, Nat.add_comm, Nat.add_mul_div_left _ _ (Nat.two_pow_pos s), Nat.div_eq_of_lt (Nat.mod_lt _ (Nat.two_pow_pos s)), Nat.zero_add]
end Go.Proofs.Ytacmbbjmcdbcnaa
namespace Go.Proofs.Ytacmbbjmcdbcnaa
open Go.RowKit
theorem bit_and (x r : Nat) (hx : x < 4294967296) : bits BinOp.and IntKind.u32 ((x : Int) / 2 ^ r) 1 = ((x / 2 ^ r % 2 : Nat) : Int) := by
  have h1 : x / 2 ^ r ≤ x := Nat.div_le_self _ _
  have e : ((x : Int) / 2 ^ r) = ((x / 2 ^ r : Nat) : Int) := by rw [Int.natCast_ediv, Int.natCast_pow]; rfl
  rw [e]
  obtain ⟨m, hm⟩ : ∃ m, x / 2 ^ r = m := ⟨_, rfl⟩
  rw [hm] at h1 ⊢
  show IntKind.u32.wrap ((BitVec.ofInt 32 (m : Int) &&& BitVec.ofInt 32 1).toNat : Int) = _
  have e1 : (BitVec.ofInt 32 1).toNat = 1 := by decide
  have e2 : (BitVec.ofInt 32 (m : Int)).toNat = m := by
    rw [BitVec.ofInt_natCast, BitVec.toNat_ofNat]; exact Nat.mod_eq_of_lt (by omega)
  rw [BitVec.toNat_and, e1, e2, Nat.and_one_is_mod, IntKind.wrap_u32]
  omega
set_option maxHeartbeats 1000000 in
theorem rshr_low (A : Option Addr) (n c : Nat) (p : Int) (l : List Nat) (w : World) (hn : l.length = n) (hc : n ≤ c) (hm : n ≤ 35184372087808) (h : RW w w.heap.size A l) (hp : p ≤ 0) :
    Calls Try.prog 60 #[.slice A n c, .int .i64 p] w (ShrQ (val l) 0 w) := by
  have c1 := (rnorm_any A n c l w.heap.size w hn hc (by omega) h).mono (fun e w' x => SlPost.of h.1.nrm x)
  rw [nrm_wds h.1] at c1
  clear hn hc hm h
  go_enter Try.func60, Try.ntmps60
  go_wp2_with fail
  refine c1.mono ?_
  rintro e w1 ⟨v1, rfl, ⟨A1, d1, rfl, hd, hr⟩, hb⟩
  have HD := Lib.hid hd
  have HR := Lib.hid hr
  have HB := Lib.hid hb
  clear hd hr hb
  go_wp2
  go_ret2
  exact ShrQ.same rfl HD.out HR.out HB.out
set_option maxHeartbeats 1000000 in
theorem rshr_far (A : Option Addr) (n c p : Nat) (l : List Nat) (w : World) (hn : l.length = n) (hc : n ≤ c) (hm : n ≤ 35184372087808) (h : RW w w.heap.size A l) (hp : 0 < p) (hf : 32 * (nrm l).length ≤ p) :
    Calls Try.prog 60 #[.slice A n c, .int .i64 p] w (ShrQ (val l) p w) := by
  have c1 := (rnorm_any A n c l w.heap.size w hn hc (by omega) h).mono (fun e w' x => SlPost.of h.1.nrm x)
  have hle := nrm_len l
  have HV := Lib.hid (show val l < 2 ^ p by
    have := val_lt h.1.nrm
    rw [val_nrm, pow32] at this
    exact Nat.lt_of_lt_of_le this (Nat.pow_le_pow_right (by omega) hf))
  have hz : (val l ≠ 0) ↔ 0 < (nrm l).length := by
    constructor
    · intro a
      refine List.length_pos_iff.2 fun e => a ?_
      rw [← val_nrm l, e]; rfl
    · intro a e
      rw [nrm_val_zero e] at a
      exact absurd a (by simp)
  obtain ⟨N, hN⟩ : ∃ N, (nrm l).length = N := ⟨_, rfl⟩
  rw [hN] at hle hz hf
  have HZ := Lib.hid hz
  have HN := Lib.hid hN
  have hp1 : ¬ (p : Int) ≤ 0 := by omega
  have hf1 : 32 * (N : Int) ≤ (p : Int) := by omega
  have k1 : IntKind.i64.wrap (32 * (N : Int)) = 32 * (N : Int) := IntWalk.i64_in _ (by omega)
  clear hn hc hm h hle hN hz hp hf
  go_enter Try.func60, Try.ntmps60
  go_wp2_with fail
  refine c1.mono ?_
  rintro e w1 ⟨v1, rfl, ⟨A1, d1, rfl, _, _⟩, hb⟩
  rw [HN.out]
  have HB := Lib.hid hb
  clear hb
  go_wp2
  go_ret2
  exact ShrQ.none HV.out (decide_eq_decide.2 HZ.out.symm) HB.out
set_option maxRecDepth 100000 in
set_option maxHeartbeats 2000000 in
theorem rshr_mid (A : Option Addr) (n c p o s : Nat) (l : List Nat) (w : World) (hn : l.length = n) (hc : n ≤ c) (hm : n ≤ 35184372087808) (h : RW w w.heap.size A l) (hp : 0 < p) (hf : p < 32 * (nrm l).length) (hpo : p = 32 * o + s) (hs : s < 32) :
    Calls Try.prog 60 #[.slice A n c, .int .i64 p] w (ShrQ (val l) p w) := by
  obtain ⟨i0, hi, hz0, hz1, hz2⟩ := info_parts infoW
  have c1 := (rnorm_any A n c l w.heap.size w hn hc (by omega) h).mono (fun e w' x => SlPost.of h.1.nrm x)
  have hle := nrm_len l
  rw [← val_nrm l]
  have hws := h.1.nrm
  obtain ⟨a, ha⟩ : ∃ a, nrm l = a := ⟨_, rfl⟩
  rw [ha] at c1 hle hf hws ⊢
  obtain ⟨N, hN⟩ : ∃ N, a.length = N := ⟨_, rfl⟩
  rw [hN] at hle hf
  have HN := Lib.hid hN
  have HWS := Lib.hid hws
  have HPO := Lib.hid hpo
  have HS := Lib.hid hs
  have HON := Lib.hid (show o < N by omega)
  have hp1 : decide ((p : Int) ≤ 0) = false := decide_eq_false (by omega)
  have hp2 : decide (p = 0) = false := decide_eq_false (by omega)
  have hf1 : ¬ 32 * (N : Int) ≤ (p : Int) := by omega
  have hN1 : (N : Int) ≤ 35184372087808 := by omega
  have k1 : IntKind.i64.wrap (32 * (N : Int)) = 32 * (N : Int) := IntWalk.i64_in _ (by omega)
  have hpN : (p : Int) < 32 * (N : Int) := by omega
  have HD := Lib.hid (show p / 32 = o ∧ p % 32 = s by omega)
  clear hn hc hm h hle hN hf hpo hs hws ha hp
  go_enter Try.func60, Try.ntmps60
  go_wp2_with fail
  refine c1.mono ?_
  rintro e w1 ⟨v1, rfl, ⟨A1, d1, rfl, hd1, hr1⟩, b1⟩
  rw [HN.out] at hd1 ⊢
  obtain ⟨b, off, rfl, hb, hcell⟩ := hr1.2 (by rw [HN.out]; have := HON.out; omega)
  have HCELL := Lib.hid hcell
  have HR1 := Lib.hid hr1
  have HB1 := Lib.hid b1
  clear hcell hr1 b1 c1 hd1
  go_wp2
  go_loopw [6, 7] (fun lv i wr => ∃ (k : Nat), lv = .bool (decide (val a % 2 ^ k ≠ 0)) ∧ i = .int .i64 k ∧ k ≤ p ∧ w1 = wr) (fun _ i _ => p - (intOf i).toNat)
  case atStart => exact ⟨0, by simp [Nat.mod_one], rfl, Nat.zero_le _, rfl⟩
  case round =>
    obtain ⟨k, rfl, rfl, hk, rfl⟩ := hrel
    by_cases hlt : k < p
    · obtain ⟨j, r, hjr, hr32⟩ : ∃ j r, k = 32 * j + r ∧ r < 32 := ⟨k / 32, k % 32, by omega, by omega⟩
      have hjN : j < N := by omega
      have hcl := HCELL.out j _ (getD_some (by rw [HN.out]; exact hjN))
      have hxl := HWS.out.getD j
      have HNX := Lib.hid (bit_next (val a) k)
      have hbw := bit_word HWS.out j r (by rw [HN.out]; omega) hr32
      rw [← hjr] at hbw
      obtain ⟨x, hx⟩ : ∃ x, a.getD j 0 = x := ⟨_, rfl⟩
      rw [hx] at hcl hxl hbw
      have hba := bit_and x r hxl
      rw [← hbw] at hba
      have hkk : (k : Int) < (p : Int) := by omega
      have e3 : (k : Int) / 32 = (j : Int) := by omega
      have e4 : (k : Int) % 32 = (r : Int) := by omega
      have hj1 : (j : Int) < (N : Int) := by omega
      have hr0 : (0 : Int) ≤ (r : Int) := by omega
      have hp63 : (p : Int) < 9223372036854775807 := by omega
      cases hlost : decide (val a % 2 ^ k ≠ 0)
      · cases hbit : decide (val a / 2 ^ k % 2 = 1)
        · have hT : (bits BinOp.and IntKind.u32 ((x : Int) / 2 ^ r) 1 == 1) = false := by
            rw [hba]; have h := of_decide_eq_false hbit; generalize val a / 2 ^ k % 2 = z at h ⊢; simp; omega
          rw [hlost, hbit] at HNX
          clear hbw hba hx hxl hjr hr32 hbit hlost hjN hk
          go_wp2
          go_roundw
          case rel => exact ⟨k + 1, by rw [HNX.out]; rfl, by go_num, by omega, trivial⟩
          case measure => simp [intOf]; omega
        · have hT : (bits BinOp.and IntKind.u32 ((x : Int) / 2 ^ r) 1 == 1) = true := by
            rw [hba]; have h := of_decide_eq_true hbit; rw [h]; rfl
          rw [hlost, hbit] at HNX
          clear hbw hba hx hxl hjr hr32 hbit hlost hjN hk
          go_wp2
          go_roundw
          case rel => exact ⟨k + 1, by rw [HNX.out]; rfl, by go_num, by omega, trivial⟩
          case measure => simp [intOf]; omega
      · rw [hlost, Bool.true_or] at HNX
        clear hbw hba hx hxl hjr hr32 hlost hjN hk
        go_wp2
        go_roundw
        case rel => exact ⟨k + 1, by rw [HNX.out], by go_num, by omega, trivial⟩
        case measure => simp [intOf]; omega
    · have hkp : k = p := by omega
      subst hkp
      obtain ⟨lo, hlo⟩ : ∃ lo, decide (val a % 2 ^ k ≠ 0) = lo := ⟨_, rfl⟩
      rw [hlo]
      have HLO := Lib.hid hlo
      have e3 : (k : Int) / 32 = (o : Int) := by have := HD.out; omega
      have e4 : (k : Int) % 32 = (s : Int) := by have := HD.out; omega
      have hs0 : (0 : Int) ≤ (s : Int) := by omega
      have hoN1 : (o : Int) < (N : Int) := by have := HON.out; omega
      have C1 := Lib.hid (fun W (hb : Below w1.heap.size w1 W) i => rword_any (some ⟨b, off, none⟩) N d1 i a w1.heap.size W HN.out (by omega) (HR1.out.below hb))
      have HSTART := Lib.hid (RsT.start (a.drop o) s)
      clear hlo hlt hk
      go_wp2
      go_loopw [8, 9] (fun v i wr => ∃ (m : Nat) (S : List Nat), i = .int .i64 m ∧ o ≤ m ∧ m ≤ N ∧ Hid (OwnW w1.heap.size S v wr) ∧ Hid (RsT (a.drop o) s (m - o) S) ∧ Below w1.heap.size w1 wr) (fun _ i _ => N - (intOf i).toNat)
      case atStart => exact ⟨o, [], rfl, Nat.le_refl _, by omega, Lib.hid (OwnW.nil _ _), by rw [Nat.sub_self]; exact HSTART, Below.refl _ _⟩
      case round =>
        obtain ⟨m, S, rfl, hom, hmN, HO, HT, hbw⟩ := hrel
        by_cases hlt : m < N
        · have HSL := Lib.hid (show (S.length + 1) * 4 ≤ 140737488355328 ∧ S.length + 1 ≤ maxLen by have := HT.out.len; unfold maxLen; omega)
          have D1 := Lib.hid (C1.out wr hbw m)
          have D2 := Lib.hid (C1.out wr hbw (m + 1))
          have HNX := Lib.hid (HT.out.next (HWS.out.drop o) (by have := HS.out; omega))
          have HW := Lib.hid (show shrW (a.drop o) s (m - o) = a.getD (m + 1) 0 * 2 ^ (32 - s) % 4294967296 + a.getD m 0 / 2 ^ s by
            unfold shrW; rw [getD_drop, getD_drop, show o + (m - o + 1) = m + 1 by omega, show o + (m - o) = m by omega])
          have hxl := HWS.out.getD m
          have hyl := HWS.out.getD (m + 1)
          obtain ⟨x, hx⟩ : ∃ x, a.getD m 0 = x := ⟨_, rfl⟩
          obtain ⟨y, hy⟩ : ∃ y, a.getD (m + 1) 0 = y := ⟨_, rfl⟩
          rw [hx] at D1 HW hxl
          rw [hy] at D2 HW hyl
          rw [show ((m + 1 : Nat) : Int) = (m : Int) + 1 by omega] at D2
          obtain ⟨f1, f2⟩ := word_pair x y s hxl HS.out
          obtain ⟨u, hu⟩ : ∃ u, y * 4294967296 = u := ⟨_, rfl⟩
          have k2 : IntKind.u64.wrap ((y : Int) * 4294967296) = (u : Int) := by rw [IntWalk.u64_in _ (by omega)]; omega
          obtain ⟨t, ht⟩ : ∃ t, x + u = t := ⟨_, rfl⟩
          rw [hu, ht] at f1 f2
          have k3 : bits BinOp.or IntKind.u64 (x : Int) (u : Int) = (t : Int) := by rw [or_u64 x u (by omega) (by omega), f1]
          obtain ⟨z, hz⟩ : ∃ z, t / 2 ^ s = z := ⟨_, rfl⟩
          have k4 : ((t : Int) / 2 ^ s) = (z : Int) := by rw [← hz, Int.natCast_ediv, Int.natCast_pow]; rfl
          rw [hz] at f2
          have ew : shrW (a.drop o) s (m - o) = z % 4294967296 := by rw [HW.out, f2]
          rw [ew, show m - o + 1 = m + 1 - o by omega] at HNX
          have hmm : (m : Int) < (N : Int) := by omega
          clear hx hy hxl hyl f1 f2 hu ht hz ew HW C1
          go_wp2_with fail
          refine D1.out.mono ?_
          rintro e w2 ⟨rfl, rfl⟩
          go_wp2_with fail
          refine D2.out.mono ?_
          rintro e w2 ⟨rfl, rfl⟩
          go_wp2_with (at_builtin; refine wpList_append_own _ rfl _ _ 53 rfl w1.heap.size 23 i0 (.int .u32 0) 1 4 Try.underlying53 hi hz0 hz1 hz2 rfl (by decide) _ _ _ rfl (World.ownsRow.alloc (w := wr) HO.out _) ⟨wr.heap.size, 0, none⟩ 1 1 [.int .u32 ((z % 4294967296 : Nat) : Int)] rfl rfl ?c1 ?c2 ?c3 ?c4 ?c5 ?_)
          case c1 => exact (cell_one_new _ _ _)
          case c2 => simp [Value.oneCell']
          case c3 => exact HSL.out.2
          case c4 => exact HSL.out.1
          case c5 => have := hbw.size; simp; omega
          intro v' w2 hown hg _
          have HO2 := Lib.hid (OwnW.snoc hown)
          have hbb : Below w1.heap.size w1 w2 := (hbw.alloc hbw.size _).grown hg (by have := hbw.size; simp; omega) (fun j hj => (World.ownsRow.lt HO.out j hj).1)
          clear hown hg
          go_wp2
          go_roundw
          case rel => exact ⟨m + 1, _, by go_num, by omega, by omega, HO2, HNX, hbb⟩
          case measure => simp [intOf]; omega
        · have hmN2 : m = N := by omega
          subst hmN2
          have HT2 := Lib.hid (show RsT (a.drop o) s (a.drop o).length S by rw [List.length_drop, HN.out]; exact HT.out)
          have hv := HT2.out.whole
          have HE2 := Lib.hid (show nrm S = wds (val a / 2 ^ k) by rw [nrm_wds HT2.out.ws, hv, HPO.out, drop_div HWS.out o s (by rw [HN.out]; exact hom)])
          have hSL := HT.out.len
          obtain ⟨A2, c2, hv2, hcc, hr2⟩ := HO.out.sl HT.out.ws
          obtain ⟨N2, hN2⟩ : ∃ N2, S.length = N2 := ⟨_, rfl⟩
          have C3 := Lib.hid (rnorm_any A2 N2 c2 S wr.heap.size wr hN2 (by rw [← hN2]; exact hcc) (by omega) hr2)
          rw [hN2] at hv2
          clear hr2 hcc hN2 hv hSL hlt hmN
          subst hv2
          go_wp2_with fail
          refine C3.out.mono ?_
          rintro e w3 ⟨v3, rfl, ho3, hb3⟩
          rw [HE2.out] at ho3
          obtain ⟨A3, c3, rfl, hc3, hr3⟩ := ho3.sl (wds_ws _)
          have HR3 := Lib.hid hr3
          have HC3 := Lib.hid hc3
          have HB3 := Lib.hid (below_le HB1.out (below_le hbw hb3))
          clear ho3 C3 hr3 hc3 hb3
          go_wp2
          go_ret2
          exact ⟨A3, _, c3, by rw [HLO.out]; rfl, rfl, HC3.out, HR3.out, HB3.out⟩
theorem rshr_any (A : Option Addr) (n c : Nat) (p : Int) (l : List Nat) (w : World) (hn : l.length = n) (hc : n ≤ c) (hm : n ≤ 35184372087808) (h : RW w w.heap.size A l) :
    Calls Try.prog 60 #[.slice A n c, .int .i64 p] w (ShrQ (val l) p.toNat w) := by
  by_cases hp : p ≤ 0
  · rw [show p.toNat = 0 by omega]
    exact rshr_low A n c p l w hn hc hm h hp
  · obtain ⟨q, rfl⟩ : ∃ q : Nat, p = (q : Int) := ⟨p.toNat, by omega⟩
    rw [Int.toNat_natCast]
    by_cases hf : 32 * (nrm l).length ≤ q
    · exact rshr_far A n c q l w hn hc hm h (by omega) hf
    · exact rshr_mid A n c q (q / 32) (q % 32) l w hn hc hm h (by omega) (by omega) (by omega) (by omega)
end Go.Proofs.Ytacmbbjmcdbcnaa
