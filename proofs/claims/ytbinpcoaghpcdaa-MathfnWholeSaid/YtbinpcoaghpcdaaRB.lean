/-
  Contract of Times of the reference. Contracts of Bits of the program and of the reference, and of the two orders of cmp. Contract of shiftLeft. Contract of shiftRight. Plain lemmas: how long a number times a power of 2 is. Contract of Shl of the program. Contract of Shl of the program: its last way. Plain lemmas: a number divided by a power of 2, and what is lost. Contract of loses. Contract of Shr of the program. Plain lemmas for Shr of the reference: bit by bit, and word by word. Contract of Shr of the reference.
-/
import Derived.Test.YtbinpcoaghpcdaaRA
import Derived.Test.YtbinpcoaghpcdaaPlain
import Derived.Test.YtbinpcoaghpcdaaOr
import Derived.Lib.BitFns
import Derived.Deep.RegionWith
import Derived.Lib.ItoaNum
namespace Go.Proofs.Ytbinpcoaghpcdaa
open Go.RowKit
/-- What stands in the row of a product of the reference when i words of a have been gone through. -/
structure MulU (a b : List Nat) (i : Nat) (P : List Nat) : Prop where
  len : P.length = a.length + b.length + 1
  ws : Ws P
  zeros : ∀ j, i + b.length ≤ j → P.getD j 0 = 0
  sum : val (P.take (i + b.length)) = val (a.take i) * val b
theorem MulU.start (a b : List Nat) : MulU a b 0 (List.replicate (a.length + b.length + 1) 0) :=
  ⟨List.length_replicate, Ws.zeros _, fun j _ => getD_zeros _ j, by rw [List.take_replicate, val_zeros]; simp [val]⟩
theorem MulU.next {a b : List Nat} {i : Nat} {P S : List Nat} {q : Nat} (h : MulU a b i P) (hi : i < a.length) (hS : AddT P i b (a.getD i 0) b.length S q) : MulU a b (i + 1) (S.set (i + b.length) q) := by
  obtain ⟨h1, h2, h3, h4⟩ := h
  obtain ⟨g1, g2, g3, g4, g5⟩ := hS
  refine ⟨by rw [List.length_set]; omega, g2.set g5, fun j hj => ?_, ?_⟩
  · rw [getD_set_ne (by omega), g3 j (by omega), h3 j (by omega)]
  · have hb : b.take b.length = b := List.take_of_length_le (Nat.le_refl _)
    rw [hb] at g4
    have e1 : (S.set (i + b.length) q).take (i + 1 + b.length) = (S.set (i + b.length) q).take (i + b.length + 1) := by congr 1; omega
    rw [e1, val_take_succ _ _ (by rw [List.length_set]; omega), getD_set_eq (by omega), val_take_succ a i hi]
    rw [take_congr (l := S.set (i + b.length) q) (m := S) (i + b.length) (by rw [List.length_set]; omega) (by omega) (fun j hj => getD_set_ne (by omega))]
    rw [val_part S i b.length (by omega)]
    rw [take_congr (l := S) (m := P) i (by omega) (by omega) (fun j hj => g3 j (by omega))]
    rw [val_part P i b.length (by omega)] at h4
    rw [Nat.pow_add]
    have e2 : val (P.take i) + 4294967296 ^ i * val ((S.drop i).take b.length) + 4294967296 ^ i * 4294967296 ^ b.length * q = val (P.take i) + 4294967296 ^ i * (val ((S.drop i).take b.length) + 4294967296 ^ b.length * q) := by grind
    rw [e2, g4]
    grind
theorem MulU.whole {a b : List Nat} {P : List Nat} (h : MulU a b a.length P) : val P = val a * val b := by
  rw [val_take_zeros P (a.length + b.length) (fun j hj => h.zeros j hj), h.sum, List.take_of_length_le (Nat.le_refl _)]
end Go.Proofs.Ytbinpcoaghpcdaa
namespace Go.Proofs.Ytbinpcoaghpcdaa
open Go.RowKit
/-- How many bits a list of words has. -/
def btl (l : List Nat) : Nat := if nrm l = [] then 0 else 32 * ((nrm l).length - 1) + Lib.bitLen (l.getD ((nrm l).length - 1) 0)
theorem bitLen_zero : Lib.bitLen 0 = 0 := by decide
theorem bitLen_le32 (x : Nat) (h : x < 4294967296) : Lib.bitLen x ≤ 32 := Lib.bitLen_le x 32 (by omega) h
set_option maxHeartbeats 2000000 in
theorem rbits_any (A : Option Addr) (n c : Nat) (l : List Nat) (B : Nat) (w : World) (hn : l.length = n) (hc : n ≤ c) (hm : n ≤ 35184372088832) (h : RW w B A l) :
    Calls Try.prog 110 #[.slice A n c] w fun e w' => e = .returned (.int .i64 (btl l : Nat)) ∧ Below w.heap.size w w' := by
  have c1 := (rnorm_any A n c l B w hn hc hm h).mono (fun e w' x => SlPost.of h.1.nrm x)
  by_cases h0 : nrm l = []
  · rw [h0] at c1
    have e : btl l = 0 := by unfold btl; rw [if_pos h0]
    rw [e]
    clear hn hc hm h h0 e
    go_enter Try.func110, Try.ntmps110
    go_wp2_with fail
    refine c1.mono ?_
    rintro e w' ⟨v, rfl, ⟨A2, c2, rfl, _, _⟩, hb⟩
    go_wp2
    go_ret
    exact ⟨rfl, hb⟩
  · have hle := nrm_len l
    have hp : 0 < (nrm l).length := List.length_pos_iff.2 h0
    have hx := h.1.getD ((nrm l).length - 1)
    have e : btl l = 32 * ((nrm l).length - 1) + Lib.bitLen (l.getD ((nrm l).length - 1) 0) := by unfold btl; rw [if_neg h0]
    obtain ⟨m, hm0⟩ : ∃ m, (nrm l).length = m + 1 := ⟨(nrm l).length - 1, by omega⟩
    have hg : (nrm l).getD m 0 = l.getD m 0 := by
      rw [nrm_take l, List.getD_eq_getElem?_getD, List.getD_eq_getElem?_getD, List.getElem?_take, if_pos (by omega)]
    rw [hm0, Nat.add_sub_cancel] at e hx
    have h1 : (m : Int) ≤ 35184372088832 := by omega
    have HM := Lib.hid hm0
    have HG := Lib.hid hg
    have HE := Lib.hid e
    obtain ⟨u, hu⟩ : ∃ u, l.getD m 0 = u := ⟨_, rfl⟩
    have HU := Lib.hid hu
    rw [hu] at hx
    have HX := Lib.hid hx
    clear hn hc hm h h0 e hle hp hm0 hg hu hx
    go_enter Try.func110, Try.ntmps110
    go_wp2_with fail
    refine c1.mono ?_
    rintro e w' ⟨v, rfl, ⟨A2, c2, rfl, _, hr⟩, hb⟩
    obtain ⟨b, off, rfl, _, hcell⟩ := hr.2 (by rw [HM.out]; omega)
    have hcl := hcell m _ (getD_some (by rw [HM.out]; omega))
    rw [HG.out, HU.out] at hcl
    rw [HM.out]
    clear hcell hr c1
    go_wp2
    go_loop [4, 5] (fun i t => ∃ k x : Nat, i = .int .i64 ((k : Nat) : Int) ∧ t = .int .u32 (x : Nat) ∧ Hid (x < 4294967296) ∧ k ≤ 32 * m + 32 ∧ Hid (k + Lib.bitLen x = 32 * m + Lib.bitLen u)) (fun _ t => (intOf t).toNat)
    case atStart => exact ⟨32 * m, u, by go_num, rfl, HX, by omega, Lib.hid rfl⟩
    case round =>
      obtain ⟨k, x, rfl, rfl, hx32, hk, HK⟩ := hrel
      by_cases h0 : x = 0
      · have HZ := Lib.hid (show k = btl l by have := HK.out; rw [h0, bitLen_zero] at this; rw [HE.out, HU.out]; omega)
        subst h0
        go_wp2
        go_ret
        exact ⟨ret_i64 (by rw [HZ.out]), hb⟩
      · have h2 : (0 : Int) < (x : Int) := by omega
        have HK2 := Lib.hid (show k + 1 + Lib.bitLen (x / 2) = 32 * m + Lib.bitLen u by
          have := HK.out
          rw [Lib.bitLen_half x h0 (by have := hx32.out; omega)] at this
          omega)
        have hk1 : k + 1 ≤ 32 * m + 32 := by have := HK2.out; have := bitLen_le32 u HX.out; omega
        have HX2 := Lib.hid (show x / 2 < 4294967296 by have := hx32.out; omega)
        have hk2 : (k : Int) ≤ 1125899906842656 := by omega
        clear h0
        go_wp2
        go_round
        case rel => exact ⟨k + 1, x / 2, by go_num, by go_num, HX2, hk1, HK2⟩
        case measure => simp [intOf]; omega
end Go.Proofs.Ytbinpcoaghpcdaa
namespace Go.Proofs.Ytbinpcoaghpcdaa
open Go.RowKit
end Go.Proofs.Ytbinpcoaghpcdaa
namespace Go.Proofs.Ytbinpcoaghpcdaa
open Go.RowKit
end Go.Proofs.Ytbinpcoaghpcdaa
namespace Go.Proofs.Ytbinpcoaghpcdaa
theorem pow32 (m : Nat) : 4294967296 ^ m = 2 ^ (32 * m) := by rw [Nat.pow_mul]
theorem btl_sums {B P v t u L : Nat} (e : v = t + B * u) (h1 : t < B) (h2 : P ≤ u) (h3 : u < L) : B * P ≤ v ∧ v < B * L := by
  have a := Nat.mul_le_mul_left B h2
  have b : B * (u + 1) ≤ B * L := Nat.mul_le_mul_left B h3
  rw [Nat.mul_add, Nat.mul_one] at b
  omega
theorem btl_bounds {l : List Nat} (h : Ws l) (h0 : nrm l ≠ []) : 2 ^ (btl l - 1) ≤ val l ∧ val l < 2 ^ btl l ∧ 0 < btl l := by
  have hp : 0 < (nrm l).length := List.length_pos_iff.2 h0
  have hle := nrm_len l
  have hge := val_ge (l := l) h0
  obtain ⟨m, hm⟩ : ∃ m, (nrm l).length = m + 1 := ⟨(nrm l).length - 1, by omega⟩
  have e : val l = val (l.take m) + 4294967296 ^ m * l.getD m 0 := by
    rw [← val_take_next, ← hm, ← nrm_take, val_nrm]
  have h1 : val (l.take m) < 4294967296 ^ m := by
    have := val_lt (h.take m)
    rwa [List.length_take, Nat.min_eq_left (by omega)] at this
  have eb : btl l = 32 * m + Lib.bitLen (l.getD m 0) := by unfold btl; rw [if_neg h0, hm, Nat.add_sub_cancel]
  have hu := h.getD m
  rw [hm, Nat.add_sub_cancel] at hge
  obtain ⟨u, hu0⟩ : ∃ u, l.getD m 0 = u := ⟨_, rfl⟩
  rw [hu0] at e eb hu
  have hz : u ≠ 0 := by intro z; rw [z, Nat.mul_zero] at e; omega
  obtain ⟨b1, b2, b3⟩ := Lib.bitLenAux_bounds 64 u (by omega) hz
  change btl l = 32 * m + Lib.bitLenAux 64 u at eb
  rw [eb]
  generalize Lib.bitLenAux 64 u = L at *
  obtain ⟨c1, c2⟩ := btl_sums e h1 b2 b3
  rw [pow32, ← Nat.pow_add] at c1 c2
  refine ⟨?_, c2, by omega⟩
  rw [show 32 * m + L - 1 = 32 * m + (L - 1) by omega]
  exact c1
end Go.Proofs.Ytbinpcoaghpcdaa
namespace Go.Proofs.Ytbinpcoaghpcdaa
open Go.RowKit
end Go.Proofs.Ytbinpcoaghpcdaa
namespace Go.Proofs.Ytbinpcoaghpcdaa
open Go.RowKit
end Go.Proofs.Ytbinpcoaghpcdaa
namespace Go.Proofs.Ytbinpcoaghpcdaa
open Go.RowKit
theorem split_at (l : List Nat) (o : Nat) (ho : o ≤ l.length) : val l = val (l.take o) + 4294967296 ^ o * val (l.drop o) := by
  have h := val_part l o (l.length - o) ho
  rw [show o + (l.length - o) = l.length by omega, List.take_length, List.take_of_length_le (l := l.drop o) (by rw [List.length_drop]; omega)] at h
  exact h
theorem take_lt {l : List Nat} (h : Ws l) (o : Nat) (ho : o ≤ l.length) : val (l.take o) < 4294967296 ^ o := by
  have := val_lt (h.take o)
  rwa [List.length_take, Nat.min_eq_left ho] at this
theorem drop_div {l : List Nat} (h : Ws l) (o s : Nat) (ho : o ≤ l.length) : val l / 2 ^ (32 * o + s) = val (l.drop o) / 2 ^ s := by
  have h1 := take_lt h o ho
  rw [Nat.pow_add, ← pow32, ← Nat.div_div_eq_div_mul, split_at l o ho, Nat.add_mul_div_left _ _ (Nat.pow_pos (by omega)), Nat.div_eq_of_lt h1, Nat.zero_add]
theorem RW.drop {w : World} {B b off : Nat} {l : List Nat} (h : RW w B (some ⟨b, off, none⟩) l) (o : Nat) (ho : o < l.length) : RW w B (some ⟨b, off + o, none⟩) (l.drop o) := ⟨h.1.drop o, fun _ => by
  obtain ⟨b2, off2, he, hb, hc⟩ := h.2 (by omega)
  cases he
  refine ⟨b, off + o, rfl, hb, fun k u hu => ?_⟩
  rw [List.getElem?_drop] at hu
  rw [show off + o + k = off + (o + k) by omega]
  exact hc _ u hu⟩
end Go.Proofs.Ytbinpcoaghpcdaa
namespace Go.Proofs.Ytbinpcoaghpcdaa
open Go.RowKit
end Go.Proofs.Ytbinpcoaghpcdaa
namespace Go.Proofs.Ytbinpcoaghpcdaa
open Go.RowKit
/-- What Shr tells: a quotient, and whether something is lost. -/
def ShrQ (v q : Nat) (w : World) (e : Ending) (w' : World) : Prop :=
  ∃ A n c, e = .returned (.tuple #[.slice A n c, .bool (decide (v % 2 ^ q ≠ 0))]) ∧ n = (wds (v / 2 ^ q)).length ∧ n ≤ c ∧ RW w' w'.heap.size A (wds (v / 2 ^ q)) ∧ Below w.heap.size w w'
theorem ShrQ.none {v q : Nat} {w w' : World} {b : Bool} (hv : v < 2 ^ q) (hb : b = decide (v ≠ 0)) (hw : Below w.heap.size w w') : ShrQ v q w (.returned (.tuple #[.slice none 0 0, .bool b])) w' :=
  ⟨Option.none, 0, 0, by rw [Nat.mod_eq_of_lt hv, hb], by rw [Nat.div_eq_of_lt hv]; rfl, Nat.le_refl _, by rw [Nat.div_eq_of_lt hv]; exact RW.nil _ _ _, hw⟩
end Go.Proofs.Ytbinpcoaghpcdaa
namespace Go.Proofs.Ytbinpcoaghpcdaa
theorem even_mod {x q R : Nat} (hq : q % 2 = 0) : (x + q * R) % 2 = x % 2 := by
  obtain ⟨k, rfl⟩ : ∃ k, q = 2 * k := ⟨q / 2, by omega⟩
  rw [Nat.mul_assoc, Nat.add_mul_mod_self_left]
theorem bit_word {l : List Nat} (h : Ws l) (j r : Nat) (hj : j ≤ l.length) (hr : r < 32) : val l / 2 ^ (32 * j + r) % 2 = l.getD j 0 / 2 ^ r % 2 := by
  rw [drop_div h j r hj]
  have e : l.getD j 0 = (l.drop j).getD 0 0 := by rw [getD_drop, Nat.add_zero]
  rw [e]
  cases l.drop j with
  | nil => simp [val]
  | cons x t =>
    simp only [val, List.getD_cons_zero]
    rw [← pow_parts (by omega : r ≤ 32), Nat.mul_assoc, Nat.add_mul_div_left _ _ (Nat.two_pow_pos r)]
    refine even_mod ?_
    obtain ⟨k, hk⟩ : ∃ k, 32 - r = k + 1 := ⟨31 - r, by omega⟩
    rw [hk, Nat.pow_succ]; omega
/-- The words of d divided by 2^s, one appended to the other. -/
structure RsT (d : List Nat) (s k : Nat) (S : List Nat) : Prop where
  len : S.length = k
  ws : Ws S
  sum : 2 ^ s * val S + d.getD 0 0 % 2 ^ s = val (d.take k) + 4294967296 ^ k * (d.getD k 0 % 2 ^ s)
theorem RsT.start (d : List Nat) (s : Nat) : RsT d s 0 [] := ⟨rfl, Ws.nil, by simp [val]⟩
theorem RsT.next {d : List Nat} {s k : Nat} {S : List Nat} (h : RsT d s k S) (hd : Ws d) (hs : s ≤ 32) : RsT d s (k + 1) (S ++ [shrW d s k]) := by
  obtain ⟨h1, h2, h4⟩ := h
  refine ⟨by rw [List.length_append, h1]; rfl, h2.append (Ws.cons (shrW_lt hd s k hs) Ws.nil), ?_⟩
  rw [val_snoc, h1, val_take_next d k]
  have e := shrW_times d s k hs
  rw [Nat.pow_succ]
  generalize 4294967296 ^ k = K at *
  generalize shrW d s k = W at *
  have e2 : K * (2 ^ s * W + d.getD k 0 % 2 ^ s) = K * (d.getD k 0 + 4294967296 * (d.getD (k + 1) 0 % 2 ^ s)) := by rw [e]
  grind
theorem RsT.whole {d : List Nat} {s : Nat} {S : List Nat} (h : RsT d s d.length S) : val S = val d / 2 ^ s := by
  have h4 := h.sum
  have e : d.getD d.length 0 = 0 := by rw [List.getD_eq_getElem?_getD, List.getElem?_eq_none (Nat.le_refl _)]; rfl
  rw [e, Nat.zero_mod, Nat.mul_zero, Nat.add_zero, List.take_of_length_le (Nat.le_refl _)] at h4
  rw [← h4, Nat.add_comm, Nat.add_mul_div_left _ _ (Nat.two_pow_pos s), Nat.div_eq_of_lt (Nat.mod_lt _ (Nat.two_pow_pos s)), Nat.zero_add]
end Go.Proofs.Ytbinpcoaghpcdaa
namespace Go.Proofs.Ytbinpcoaghpcdaa
open Go.RowKit
theorem bit_and (x r : Nat) (hx : x < 4294967296) : bits BinOp.and IntKind.u32 ((x : Int) / 2 ^ r) 1 = ((x / 2 ^ r % 2 : Nat) : Int) := by
  have h1 : x / 2 ^ r ≤ x := Nat.div_le_self _ _
  have e : ((x : Int) / 2 ^ r) = ((x / 2 ^ r : Nat) : Int) := by rw [Int.natCast_ediv, Int.natCast_pow]; rfl
  rw [e]
  obtain ⟨m, hm⟩ : ∃ m, x / 2 ^ r = m := ⟨_, rfl⟩
  rw [hm] at h1 ⊢
  show IntKind.u32.wrap ((BitVec.ofInt 32 (m : Int) &&& BitVec.ofInt 32 1).toNat : Int) = _
  have e1 : (BitVec.ofInt 32 1).toNat = 1 := by decide
  have e2 : (BitVec.ofInt 32 (m : Int)).toNat = m := by
    rw [BitVec.ofInt_natCast, BitVec.toNat_ofNat]; exact Nat.mod_eq_of_lt (by omega)
  rw [BitVec.toNat_and, e1, e2, Nat.and_one_is_mod, IntKind.wrap_u32]
  omega
end Go.Proofs.Ytbinpcoaghpcdaa
