/-
  Contract of shiftRight. Plain lemmas: how long a number times a power of 2 is. Contract of Shl of the program. Contract of Shl of the program: its last way. Plain lemmas: a number divided by a power of 2, and what is lost. Contract of loses. Contract of Shr of the program. Plain lemmas for Shr of the reference: bit by bit, and word by word. Contract of Shr of the reference. Plain lemmas for Div of the program: long division, word by word. Contract of Sub32. Contract of shiftRight, when a row is written to itself. Contract of Sub of the program. Contracts of Less and Sub of the reference. Contract of Less of the reference, once more: the difference lies in a row of the call's own. Contract of Sub of the reference; what a natural and an errno are, put as a list and a code. Contract of Up of the reference. Contracts of Shl of the reference and of the program, whole. Plain lemmas: powers, from the exponent's highest bit on.
-/
import Derived.Test.YtmlgjijjkikkhaaGreatDoorBB
import Derived.Lib.ItoaNum
import Derived.Laws.BitsAllLaws
import Derived.Deep.RegionWith
import Derived.Deep.DeepCutAuto
import Derived.ProofKit
import Derived.OpenShut
import Derived.SizedLaws
import Derived.Laws.BytesString
import Derived.Laws.Cells
import Derived.BigRegion
import GoSem.Core.Utf8
import Derived.WalkKit
import Derived.WalkSpells
import Derived.WalkLawsBesides
import Derived.Deep.QuietTactic
import Derived.BigQuiet
import Derived.Lib.Hide
import Derived.Deep.OwnRows
import Derived.Laws.CopyOwn
import Derived.Deep.AppendLies
import Derived.Lib.BitFns
import Derived.Lib.Strings
import Derived.Lib.LaidTab
import Derived.Test.YtmlgjijjkikkhaaGreatDoorProg
import Derived.Test.YtmlgjijjkikkhaaGreatDoorRows
import Derived.Test.YtmlgjijjkikkhaaGreatDoorShelf
namespace Go.Proofs.YtmlgjijjkikkhaaGreatDoor
open Go.RowKit
end Go.Proofs.YtmlgjijjkikkhaaGreatDoor
namespace Go.Proofs.YtmlgjijjkikkhaaGreatDoor
theorem pow32 (m : Nat) : 4294967296 ^ m = 2 ^ (32 * m) := by rw [Nat.pow_mul]
theorem ShlP.all {o n s : Nat} {b S : List Nat} (h : ShlP (List.replicate (o + n) 0) o b s n S) (hn : b.length < n) : val S = val b * 2 ^ (32 * o + s) := by
  have hl := h.len
  rw [List.length_replicate] at hl
  have e1 : val S = val (S.take (o + n)) := by rw [List.take_of_length_le (by omega)]
  have e2 : S.take o = (List.replicate (o + n) 0).take o := take_congr o (by omega) (by rw [List.length_replicate]; omega) (fun j hj => h.far j (Or.inl hj))
  rw [e1, val_part S o n (by omega), h.whole hn, e2, List.take_replicate, val_zeros, pow32, Nat.zero_add, Nat.pow_add]
  grind

end Go.Proofs.YtmlgjijjkikkhaaGreatDoor
namespace Go.Proofs.YtmlgjijjkikkhaaGreatDoor
open Go.RowKit
end Go.Proofs.YtmlgjijjkikkhaaGreatDoor
namespace Go.Proofs.YtmlgjijjkikkhaaGreatDoor
open Go.RowKit
end Go.Proofs.YtmlgjijjkikkhaaGreatDoor
namespace Go.Proofs.YtmlgjijjkikkhaaGreatDoor
open Go.RowKit
theorem RW.drop {w : World} {B b off : Nat} {l : List Nat} (h : RW w B (some ⟨b, off, none⟩) l) (o : Nat) (ho : o < l.length) : RW w B (some ⟨b, off + o, none⟩) (l.drop o) := ⟨h.1.drop o, fun _ => by
  obtain ⟨b2, off2, he, hb, hc⟩ := h.2 (by omega)
  cases he
  refine ⟨b, off + o, rfl, hb, fun k u hu => ?_⟩
  rw [List.getElem?_drop] at hu
  rw [show off + o + k = off + (o + k) by omega]
  exact hc _ u hu⟩
end Go.Proofs.YtmlgjijjkikkhaaGreatDoor
namespace Go.Proofs.YtmlgjijjkikkhaaGreatDoor
open Go.RowKit
end Go.Proofs.YtmlgjijjkikkhaaGreatDoor
namespace Go.Proofs.YtmlgjijjkikkhaaGreatDoor
open Go.RowKit
/-- What Shr tells: a quotient, and whether something is lost. -/
def ShrQ (v q : Nat) (w : World) (e : Ending) (w' : World) : Prop :=
  ∃ A n c, e = .returned (.tuple #[.slice A n c, .bool (decide (v % 2 ^ q ≠ 0))]) ∧ n = (wds (v / 2 ^ q)).length ∧ n ≤ c ∧ RW w' w'.heap.size A (wds (v / 2 ^ q)) ∧ Below w.heap.size w w'
theorem ShrQ.same {v : Nat} {w w' : World} {A : Option Addr} {n c : Nat} (hn : n = (wds v).length) (hc : n ≤ c) (hr : RW w' w'.heap.size A (wds v)) (hb : Below w.heap.size w w') : ShrQ v 0 w (.returned (.tuple #[.slice A n c, .bool false])) w' :=
  ⟨A, n, c, by simp [Nat.mod_one], by simpa using hn, hc, by simpa using hr, hb⟩
theorem ShrQ.none {v q : Nat} {w w' : World} {b : Bool} (hv : v < 2 ^ q) (hb : b = decide (v ≠ 0)) (hw : Below w.heap.size w w') : ShrQ v q w (.returned (.tuple #[.slice none 0 0, .bool b])) w' :=
  ⟨Option.none, 0, 0, by rw [Nat.mod_eq_of_lt hv, hb], by rw [Nat.div_eq_of_lt hv]; rfl, Nat.le_refl _, by rw [Nat.div_eq_of_lt hv]; exact RW.nil _ _ _, hw⟩
end Go.Proofs.YtmlgjijjkikkhaaGreatDoor
namespace Go.Proofs.YtmlgjijjkikkhaaGreatDoor
/-- The words of d divided by 2^s, one appended to the other. -/
structure RsT (d : List Nat) (s k : Nat) (S : List Nat) : Prop where
  len : S.length = k
  ws : Ws S
  sum : 2 ^ s * val S + d.getD 0 0 % 2 ^ s = val (d.take k) + 4294967296 ^ k * (d.getD k 0 % 2 ^ s)
theorem RsT.next {d : List Nat} {s k : Nat} {S : List Nat} (h : RsT d s k S) (hd : Ws d) (hs : s ≤ 32) : RsT d s (k + 1) (S ++ [shrW d s k]) := by
  obtain ⟨h1, h2, h4⟩ := h
  refine ⟨by rw [List.length_append, h1]; rfl, h2.append (Ws.cons (shrW_lt hd s k hs) Ws.nil), ?_⟩
  rw [val_snoc, h1, val_take_next d k]
  have e := shrW_times d s k hs
  rw [Nat.pow_succ]
  generalize 4294967296 ^ k = K at *
  generalize shrW d s k = W at *
  have e2 : K * (2 ^ s * W + d.getD k 0 % 2 ^ s) = K * (d.getD k 0 + 4294967296 * (d.getD (k + 1) 0 % 2 ^ s)) := by rw [e]
  grind
theorem RsT.whole {d : List Nat} {s : Nat} {S : List Nat} (h : RsT d s d.length S) : val S = val d / 2 ^ s := by
  have h4 := h.sum
  have e : d.getD d.length 0 = 0 := by rw [List.getD_eq_getElem?_getD, List.getElem?_eq_none (Nat.le_refl _)]; rfl
  rw [e, Nat.zero_mod, Nat.mul_zero, Nat.add_zero, List.take_of_length_le (Nat.le_refl _)] at h4
  rw [← h4, Nat.add_comm, Nat.add_mul_div_left _ _ (Nat.two_pow_pos s), Nat.div_eq_of_lt (Nat.mod_lt _ (Nat.two_pow_pos s)), Nat.zero_add]

end Go.Proofs.YtmlgjijjkikkhaaGreatDoor
namespace Go.Proofs.YtmlgjijjkikkhaaGreatDoor
open Go.RowKit
end Go.Proofs.YtmlgjijjkikkhaaGreatDoor
namespace Go.Proofs.YtmlgjijjkikkhaaGreatDoor
/-- What stands in a row when x times k words of b were taken from it from o on; q is to be taken behind them. -/
structure TakeT (R : List Nat) (o : Nat) (b : List Nat) (x k : Nat) (S : List Nat) (q : Nat) : Prop where
  len : S.length = R.length
  ws : Ws S
  far : ∀ j, j < o ∨ o + k ≤ j → S.getD j 0 = R.getD j 0
  sum : val ((S.drop o).take k) + x * val (b.take k) = val ((R.drop o).take k) + 4294967296 ^ k * q
  low : q < 4294967296
/-- What is taken at the place of the next word. -/
def takC (b : List Nat) (x k q : Nat) : Nat := q + b.getD k 0 * x
/-- The next word, and what is to be taken behind it. -/
def takW (r t : Nat) : Nat := (r + 4294967296 * 2 - t % 4294967296 - 0) % 4294967296
def takB (r t : Nat) : Nat := if r < t % 4294967296 + 0 then 1 else 0
theorem takC_le {b : List Nat} {x k q : Nat} (hb : Ws b) (hx : x < 4294967296) (hq : q < 4294967296) : b.getD k 0 * x ≤ 18446744065119617025 ∧ takC b x k q ≤ 18446744069414584320 := by
  have h1 := hb.getD k
  have h3 : b.getD k 0 * x ≤ 4294967295 * 4294967295 := Nat.mul_le_mul (by omega) (by omega)
  unfold takC
  omega
theorem tak_step (r t : Nat) (hr : r < 4294967296) : takW r t + t = r + 4294967296 * (t / 4294967296 + takB r t) := by
  unfold takW takB
  split <;> omega
theorem tak_low (r t : Nat) (ht : t ≤ 18446744069414584320) : t / 4294967296 + takB r t < 4294967296 := by
  unfold takB
  split <;> omega
theorem TakeT.next {R : List Nat} {o : Nat} {b : List Nat} {x k : Nat} {S : List Nat} {q : Nat} (h : TakeT R o b x k S q) (hR : Ws R) (hb : Ws b) (hx : x < 4294967296) (ho : o + k < R.length) :
    S.getD (o + k) 0 = R.getD (o + k) 0 ∧ TakeT R o b x (k + 1) (S.set (o + k) (takW (R.getD (o + k) 0) (takC b x k q))) (takC b x k q / 4294967296 + takB (R.getD (o + k) 0) (takC b x k q)) := by
  obtain ⟨h1, h2, h3, h4, h5⟩ := h
  have ht := (takC_le (k := k) hb hx h5).2
  have hl := tak_low (R.getD (o + k) 0) _ ht
  have hs := tak_step (R.getD (o + k) 0) (takC b x k q) (hR.getD _)
  have hc : takC b x k q = q + b.getD k 0 * x := rfl
  refine ⟨h3 _ (.inr (Nat.le_refl _)), by rw [List.length_set]; exact h1, h2.set (by unfold takW; omega), fun j hj => ?_, ?_, hl⟩
  · rw [getD_set_ne (by omega), h3 j (by omega)]
  · rw [val_part_succ _ o k (by rw [List.length_set]; omega), val_part_succ R o k ho, val_take_next b k, getD_set_eq (by omega)]
    rw [part_congr (l := S.set (o + k) (takW (R.getD (o + k) 0) (takC b x k q))) (m := S) o k (by rw [List.length_set]; omega) (by omega) (fun j _ hj => getD_set_ne (by omega))]
    rw [Nat.pow_succ]
    generalize takW (R.getD (o + k) 0) (takC b x k q) = W at *
    generalize takC b x k q / 4294967296 + takB (R.getD (o + k) 0) (takC b x k q) = Q at *
    generalize 4294967296 ^ k = K at *
    generalize takC b x k q = t at *
    generalize R.getD (o + k) 0 = r at *
    have e : K * (W + t) = K * (r + 4294967296 * Q) := by rw [hs]
    rw [hc] at e
    grind
/-- The state of a step: S holds at o what is left when often times b were taken, and one is to be given back, if below is 1. -/
structure StepT (R : List Nat) (o : Nat) (b : List Nat) (S : List Nat) (often below : Nat) : Prop where
  len : S.length = R.length
  ws : Ws S
  far : ∀ j, j < o ∨ o + (b.length + 1) ≤ j → S.getD j 0 = R.getD j 0
  sum : val ((S.drop o).take (b.length + 1)) + often * val b = val ((R.drop o).take (b.length + 1)) + 4294967296 ^ (b.length + 1) * below
  high : val ((R.drop o).take (b.length + 1)) / val b ≤ often
  low : below ≤ 1
  word : often < 4294967296
theorem TakeT.step {R : List Nat} {o : Nat} {b : List Nat} {x : Nat} {S : List Nat} {q : Nat} (h : TakeT R o b x b.length S q) (ho : o + b.length < R.length) (hR : Ws R) (hx : x < 4294967296)
    (hq : val ((R.drop o).take (b.length + 1)) / val b ≤ x) :
    S.getD (o + b.length) 0 = R.getD (o + b.length) 0 ∧
    StepT R o b (S.set (o + b.length) ((R.getD (o + b.length) 0 + 4294967296 * 2 - q - 0) % 4294967296)) x (if R.getD (o + b.length) 0 < q + 0 then 1 else 0) := by
  obtain ⟨h1, h2, h3, h4, h5⟩ := h
  refine ⟨h3 _ (.inr (Nat.le_refl _)), by rw [List.length_set]; exact h1, h2.set (by omega), fun j hj => ?_, ?_, hq, by split <;> omega, hx⟩
  · rw [getD_set_ne (by omega), h3 j (by omega)]
  · rw [val_part_succ _ o _ (by rw [List.length_set]; omega), val_part_succ R o _ ho, getD_set_eq (by omega)]
    rw [part_congr (l := S.set (o + b.length) _) (m := S) o b.length (by rw [List.length_set]; omega) (by omega) (fun j _ hj => getD_set_ne (by omega))]
    rw [List.take_of_length_le (Nat.le_refl b.length)] at h4
    have hr := hR.getD (o + b.length)
    generalize R.getD (o + b.length) 0 = r at *
    have key : (r + 4294967296 * 2 - q - 0) % 4294967296 + q = r + 4294967296 * (if r < q + 0 then 1 else 0) := by split <;> omega
    generalize (r + 4294967296 * 2 - q - 0) % 4294967296 = W at *
    generalize (if r < q + 0 then 1 else 0) = c at *
    rw [Nat.pow_succ]
    generalize 4294967296 ^ b.length = K at *
    have e : K * (W + q) = K * (r + 4294967296 * c) := by rw [key]
    grind
theorem StepT.fin {R : List Nat} {o : Nat} {b : List Nat} {S : List Nat} {often : Nat} (h : StepT R o b S often 0) (hb : 0 < val b) :
    often = val ((R.drop o).take (b.length + 1)) / val b ∧ val ((S.drop o).take (b.length + 1)) = val ((R.drop o).take (b.length + 1)) % val b := by
  obtain ⟨h1, h2, h3, h4, h5, _, _⟩ := h
  rw [Nat.mul_zero, Nat.add_zero] at h4
  generalize val ((R.drop o).take (b.length + 1)) = P at *
  generalize val ((S.drop o).take (b.length + 1)) = s at *
  generalize val b = D at *
  have e1 : often ≤ P / D := by rw [Nat.le_div_iff_mul_le hb]; omega
  have e2 : often = P / D := by omega
  refine ⟨e2, ?_⟩
  have e3 := Nat.div_add_mod P D
  rw [← e2, Nat.mul_comm] at e3
  omega
theorem StepT.more {R : List Nat} {o : Nat} {b : List Nat} {S : List Nat} {often : Nat} (h : StepT R o b S often 1) (hb : 0 < val b) (ho : o + b.length < R.length) :
    0 < often ∧ val ((R.drop o).take (b.length + 1)) / val b < often := by
  obtain ⟨h1, h2, h3, h4, h5, _, _⟩ := h
  have hl := val_lt ((h2.drop o).take (b.length + 1))
  rw [List.length_take, List.length_drop, Nat.min_eq_left (by omega)] at hl
  generalize val ((R.drop o).take (b.length + 1)) = P at *
  generalize val ((S.drop o).take (b.length + 1)) = s at *
  generalize val b = D at *
  have e : P / D < often := by rw [Nat.div_lt_iff_lt_mul hb]; omega
  exact ⟨Nat.lt_of_le_of_lt (Nat.zero_le _) e, e⟩
end Go.Proofs.YtmlgjijjkikkhaaGreatDoor
namespace Go.Proofs.YtmlgjijjkikkhaaGreatDoor
open Go.RowKit
end Go.Proofs.YtmlgjijjkikkhaaGreatDoor
namespace Go.Proofs.YtmlgjijjkikkhaaGreatDoor
open Go.RowKit
end Go.Proofs.YtmlgjijjkikkhaaGreatDoor
namespace Go.Proofs.YtmlgjijjkikkhaaGreatDoor
open Go.RowKit
/-- What Sub tells. -/
def SubP (v u : Nat) (w : World) (e : Ending) (w' : World) : Prop := if (lngB v || lngB u) = true then ErrPost 3 w e w' else if v < u then ErrPost 1 w e w' else NatPost (v - u) w e w'
end Go.Proofs.YtmlgjijjkikkhaaGreatDoor
namespace Go.Proofs.YtmlgjijjkikkhaaGreatDoor
open Go.RowKit
end Go.Proofs.YtmlgjijjkikkhaaGreatDoor
namespace Go.Proofs.YtmlgjijjkikkhaaGreatDoor
open Go.RowKit
theorem OwnW.low {B C : Nat} {l : List Nat} {v : Value} {w : World} (h : OwnW C l v w) (hB : B ≤ C) : OwnW B l v w :=
  ⟨h.1, h.2.imp id (fun ⟨g, cap, cur, e, h1, r⟩ => ⟨g, cap, cur, e, Nat.le_trans hB h1, r⟩)⟩
end Go.Proofs.YtmlgjijjkikkhaaGreatDoor
namespace Go.Proofs.YtmlgjijjkikkhaaGreatDoor
open Go.RowKit
def addL (v u : Nat) : List Nat := if (lngB v || lngB u) = true then [] else natL (v + u)
def addK (v u : Nat) : Nat := if (lngB v || lngB u) = true then 3 else natK (v + u)
theorem AddP.two {v u : Nat} {w w' : World} {e : Ending} (h : AddP v u w e w') : Two (addL v u) (addL v u).length (addK v u) w e w' := by
  unfold AddP at h
  unfold addL addK
  by_cases hl : (lngB v || lngB u) = true
  · rw [if_pos hl] at h ⊢; rw [if_pos hl]; exact h.two
  · rw [if_neg hl] at h ⊢; rw [if_neg hl]; exact h.two
def subL (v u : Nat) : List Nat := if (lngB v || lngB u) = true then [] else if v < u then [] else natL (v - u)
def subK (v u : Nat) : Nat := if (lngB v || lngB u) = true then 3 else if v < u then 1 else natK (v - u)
theorem SubP.two {v u : Nat} {w w' : World} {e : Ending} (h : SubP v u w e w') : Two (subL v u) (subL v u).length (subK v u) w e w' := by
  unfold SubP at h
  unfold subL subK
  by_cases hl : (lngB v || lngB u) = true
  · rw [if_pos hl] at h ⊢; rw [if_pos hl]; exact h.two
  · rw [if_neg hl] at h ⊢; rw [if_neg hl]
    by_cases hv : v < u
    · rw [if_pos hv] at h ⊢; rw [if_pos hv]; exact h.two
    · rw [if_neg hv] at h ⊢; rw [if_neg hv]; exact h.two
end Go.Proofs.YtmlgjijjkikkhaaGreatDoor
namespace Go.Proofs.YtmlgjijjkikkhaaGreatDoor
open Go.RowKit
/-- The words of a times 2^(32 o + s), one appended to the other. -/
structure UpT (o : Nat) (a : List Nat) (s i : Nat) (S : List Nat) : Prop where
  len : S.length = o + i
  ws : Ws S
  sum : val S + 4294967296 ^ (o + i) * carL a s i = 4294967296 ^ o * (2 ^ s * val (a.take i))
theorem carL_next (a : List Nat) (s i : Nat) (hs : s ≤ 32) : carL a s (i + 1) = a.getD i 0 * 2 ^ s / 4294967296 := by
  unfold carL; rw [if_neg (by omega), Nat.add_sub_cancel, mul_div_low _ s hs]
theorem UpT.next {o : Nat} {a : List Nat} {s i : Nat} {S : List Nat} (h : UpT o a s i S) (ha : Ws a) (hs : s ≤ 32) : UpT o a s (i + 1) (S ++ [shlW a s i]) := by
  obtain ⟨h1, h2, h3⟩ := h
  refine ⟨by rw [List.length_append, h1]; rfl, h2.append (Ws.cons (shlW_lt ha s i hs) Ws.nil), ?_⟩
  rw [val_snoc, h1, val_take_next, carL_next a s i hs]
  have e := step_words (4294967296 ^ (o + i)) (a.getD i 0 * 2 ^ s) (val S + 4294967296 ^ (o + i) * carL a s i) (4294967296 ^ o * (2 ^ s * (val (a.take i) + 4294967296 ^ i * a.getD i 0))) (by rw [h3, Nat.pow_add]; grind)
  rw [show o + (i + 1) = o + i + 1 by omega, Nat.pow_succ]
  unfold shlW
  grind
theorem UpT.whole {o : Nat} {a : List Nat} {s : Nat} {S : List Nat} (h : UpT o a s a.length S) : val (S ++ [carL a s a.length]) = val a * 2 ^ (32 * o + s) := by
  have h3 := h.sum
  rw [List.take_of_length_le (Nat.le_refl _)] at h3
  rw [val_snoc, h.len, h3, pow32, Nat.pow_add]
  grind
end Go.Proofs.YtmlgjijjkikkhaaGreatDoor
namespace Go.Proofs.YtmlgjijjkikkhaaGreatDoor
open Go.RowKit
end Go.Proofs.YtmlgjijjkikkhaaGreatDoor
namespace Go.Proofs.YtmlgjijjkikkhaaGreatDoor
end Go.Proofs.YtmlgjijjkikkhaaGreatDoor
