/-
  Contract of shiftRight. Plain lemmas: how long a number times a power of 2 is. Contract of Shl of the program. Contract of Shl of the program: its last way. Plain lemmas: a number divided by a power of 2, and what is lost. Contract of loses. Contract of Shr of the program. Plain lemmas for Shr of the reference: bit by bit, and word by word. Contract of Shr of the reference. Plain lemmas for Div of the program: long division, word by word. Contract of Sub32. Contract of shiftRight, when a row is written to itself. Contract of Sub of the program. Contracts of Less and Sub of the reference. Contract of Less of the reference, once more: the difference lies in a row of the call's own. Contract of Sub of the reference; what a natural and an errno are, put as a list and a code. Contract of Up of the reference. Contracts of Shl of the reference and of the program, whole. Plain lemmas: powers, from the exponent's highest bit on. Contracts of the program's point among digits and of its exponent behind them. Contracts of the program's plain text, of its sign, of Text and Shortest. The text of the number 1, by the program. What the tokens of a source are, on lists of units. No program in it. Contracts of the lexer's units, digits and what stands between tokens. Contracts of the program's functions between tokens. The contracts of the program's letter and fits.
-/
import Derived.Lib.ItoaNum
import Derived.Laws.BitsAllLaws
import Derived.Deep.RegionWith
import Derived.Deep.DeepCutAuto
import Derived.ProofKit
import Derived.OpenShut
import Derived.SizedLaws
import Derived.Laws.BytesString
import Derived.Laws.Cells
import Derived.BigRegion
import GoSem.Core.Utf8
import Derived.WalkKit
import Derived.WalkSpells
import Derived.WalkLawsBesides
import Derived.Deep.QuietTactic
import Derived.BigQuiet
import Derived.Lib.Hide
import Derived.Deep.OwnRows
import Derived.Laws.CopyOwn
import Derived.Deep.AppendLies
import Derived.Lib.BitFns
import Derived.Lib.Strings
import Derived.Lib.LaidTab
import Derived.Test.YtfpmhahjemdodaaGreatDoorProg
import Derived.Test.YtfpmhahjemdodaaGreatDoorRows
import Derived.Test.YtfpmhahjemdodaaGreatDoorShelf
import Derived.Test.YtfpmhahjemdodaaGreatDoorMqae
import Derived.Deep.WholeRow
import Derived.Laws.Tables
import Derived.Laws.EntriesVeiled
import Derived.Lib.AppendIntMem
import Derived.Deep.RegionHeld3
import Derived.Laws.Closers25b
import Derived.Laws.FloatArith
import Derived.Laws.Externs
import Ieee.Arith
import GoSem.Core.Float
import Derived.Lib.SlTrimSet
import Derived.Lib.Case
import Derived.Test.YtfpmhahjemdodaaGreatDoorMqav
import Derived.Test.YtfpmhahjemdodaaGreatDoorMqau
import Derived.Test.YtfpmhahjemdodaaGreatDoorMqaf
import Derived.Test.YtfpmhahjemdodaaGreatDoorUs
import Derived.OwnWalk
namespace Go.Proofs.YtfpmhahjemdodaaGreatDoor
open Go.RowKit
end Go.Proofs.YtfpmhahjemdodaaGreatDoor
namespace Go.Proofs.YtfpmhahjemdodaaGreatDoor
theorem pow32 (m : Nat) : 4294967296 ^ m = 2 ^ (32 * m) := by rw [Nat.pow_mul]
theorem btl_sums {B P v t u L : Nat} (e : v = t + B * u) (h1 : t < B) (h2 : P ≤ u) (h3 : u < L) : B * P ≤ v ∧ v < B * L := by
  have a := Nat.mul_le_mul_left B h2
  have b : B * (u + 1) ≤ B * L := Nat.mul_le_mul_left B h3
  rw [Nat.mul_add, Nat.mul_one] at b
  omega
theorem btl_bounds {l : List Nat} (h : Ws l) (h0 : nrm l ≠ []) : 2 ^ (btl l - 1) ≤ val l ∧ val l < 2 ^ btl l ∧ 0 < btl l := by
  have hp : 0 < (nrm l).length := List.length_pos_iff.2 h0
  have hle := nrm_len l
  have hge := val_ge (l := l) h0
  obtain ⟨m, hm⟩ : ∃ m, (nrm l).length = m + 1 := ⟨(nrm l).length - 1, by omega⟩
  have e : val l = val (l.take m) + 4294967296 ^ m * l.getD m 0 := by
    rw [← val_take_next, ← hm, ← nrm_take, val_nrm]
  have h1 : val (l.take m) < 4294967296 ^ m := by
    have := val_lt (h.take m)
    rwa [List.length_take, Nat.min_eq_left (by omega)] at this
  have eb : btl l = 32 * m + Lib.bitLen (l.getD m 0) := by unfold btl; rw [if_neg h0, hm, Nat.add_sub_cancel]
  have hu := h.getD m
  rw [hm, Nat.add_sub_cancel] at hge
  obtain ⟨u, hu0⟩ : ∃ u, l.getD m 0 = u := ⟨_, rfl⟩
  rw [hu0] at e eb hu
  have hz : u ≠ 0 := by intro z; rw [z, Nat.mul_zero] at e; omega
  obtain ⟨b1, b2, b3⟩ := Lib.bitLenAux_bounds 64 u (by omega) hz
  change btl l = 32 * m + Lib.bitLenAux 64 u at eb
  rw [eb]
  generalize Lib.bitLenAux 64 u = L at *
  obtain ⟨c1, c2⟩ := btl_sums e h1 b2 b3
  rw [pow32, ← Nat.pow_add] at c1 c2
  refine ⟨?_, c2, by omega⟩
  rw [show 32 * m + L - 1 = 32 * m + (L - 1) by omega]
  exact c1
theorem ShlP.all {o n s : Nat} {b S : List Nat} (h : ShlP (List.replicate (o + n) 0) o b s n S) (hn : b.length < n) : val S = val b * 2 ^ (32 * o + s) := by
  have hl := h.len
  rw [List.length_replicate] at hl
  have e1 : val S = val (S.take (o + n)) := by rw [List.take_of_length_le (by omega)]
  have e2 : S.take o = (List.replicate (o + n) 0).take o := take_congr o (by omega) (by rw [List.length_replicate]; omega) (fun j hj => h.far j (Or.inl hj))
  rw [e1, val_part S o n (by omega), h.whole hn, e2, List.take_replicate, val_zeros, pow32, Nat.zero_add, Nat.pow_add]
  grind

end Go.Proofs.YtfpmhahjemdodaaGreatDoor
namespace Go.Proofs.YtfpmhahjemdodaaGreatDoor
open Go.RowKit
end Go.Proofs.YtfpmhahjemdodaaGreatDoor
namespace Go.Proofs.YtfpmhahjemdodaaGreatDoor
open Go.RowKit
end Go.Proofs.YtfpmhahjemdodaaGreatDoor
namespace Go.Proofs.YtfpmhahjemdodaaGreatDoor
open Go.RowKit
theorem RW.drop {w : World} {B b off : Nat} {l : List Nat} (h : RW w B (some ⟨b, off, none⟩) l) (o : Nat) (ho : o < l.length) : RW w B (some ⟨b, off + o, none⟩) (l.drop o) := ⟨h.1.drop o, fun _ => by
  obtain ⟨b2, off2, he, hb, hc⟩ := h.2 (by omega)
  cases he
  refine ⟨b, off + o, rfl, hb, fun k u hu => ?_⟩
  rw [List.getElem?_drop] at hu
  rw [show off + o + k = off + (o + k) by omega]
  exact hc _ u hu⟩
end Go.Proofs.YtfpmhahjemdodaaGreatDoor
namespace Go.Proofs.YtfpmhahjemdodaaGreatDoor
open Go.RowKit
end Go.Proofs.YtfpmhahjemdodaaGreatDoor
namespace Go.Proofs.YtfpmhahjemdodaaGreatDoor
open Go.RowKit
/-- What Shr tells: a quotient, and whether something is lost. -/
def ShrQ (v q : Nat) (w : World) (e : Ending) (w' : World) : Prop :=
  ∃ A n c, e = .returned (.tuple #[.slice A n c, .bool (decide (v % 2 ^ q ≠ 0))]) ∧ n = (wds (v / 2 ^ q)).length ∧ n ≤ c ∧ RW w' w'.heap.size A (wds (v / 2 ^ q)) ∧ Below w.heap.size w w'
theorem ShrQ.none {v q : Nat} {w w' : World} {b : Bool} (hv : v < 2 ^ q) (hb : b = decide (v ≠ 0)) (hw : Below w.heap.size w w') : ShrQ v q w (.returned (.tuple #[.slice none 0 0, .bool b])) w' :=
  ⟨Option.none, 0, 0, by rw [Nat.mod_eq_of_lt hv, hb], by rw [Nat.div_eq_of_lt hv]; rfl, Nat.le_refl _, by rw [Nat.div_eq_of_lt hv]; exact RW.nil _ _ _, hw⟩
end Go.Proofs.YtfpmhahjemdodaaGreatDoor
namespace Go.Proofs.YtfpmhahjemdodaaGreatDoor
/-- The words of d divided by 2^s, one appended to the other. -/
structure RsT (d : List Nat) (s k : Nat) (S : List Nat) : Prop where
  len : S.length = k
  ws : Ws S
  sum : 2 ^ s * val S + d.getD 0 0 % 2 ^ s = val (d.take k) + 4294967296 ^ k * (d.getD k 0 % 2 ^ s)
theorem RsT.next {d : List Nat} {s k : Nat} {S : List Nat} (h : RsT d s k S) (hd : Ws d) (hs : s ≤ 32) : RsT d s (k + 1) (S ++ [shrW d s k]) := by
  obtain ⟨h1, h2, h4⟩ := h
  refine ⟨by rw [List.length_append, h1]; rfl, h2.append (Ws.cons (shrW_lt hd s k hs) Ws.nil), ?_⟩
  rw [val_snoc, h1, val_take_next d k]
  have e := shrW_times d s k hs
  rw [Nat.pow_succ]
  generalize 4294967296 ^ k = K at *
  generalize shrW d s k = W at *
  have e2 : K * (2 ^ s * W + d.getD k 0 % 2 ^ s) = K * (d.getD k 0 + 4294967296 * (d.getD (k + 1) 0 % 2 ^ s)) := by rw [e]
  grind
theorem RsT.whole {d : List Nat} {s : Nat} {S : List Nat} (h : RsT d s d.length S) : val S = val d / 2 ^ s := by
  have h4 := h.sum
  have e : d.getD d.length 0 = 0 := by rw [List.getD_eq_getElem?_getD, List.getElem?_eq_none (Nat.le_refl _)]; rfl
  rw [e, Nat.zero_mod, Nat.mul_zero, Nat.add_zero, List.take_of_length_le (Nat.le_refl _)] at h4
  rw [← h4, Nat.add_comm, Nat.add_mul_div_left _ _ (Nat.two_pow_pos s), Nat.div_eq_of_lt (Nat.mod_lt _ (Nat.two_pow_pos s)), Nat.zero_add]

end Go.Proofs.YtfpmhahjemdodaaGreatDoor
namespace Go.Proofs.YtfpmhahjemdodaaGreatDoor
open Go.RowKit
end Go.Proofs.YtfpmhahjemdodaaGreatDoor
namespace Go.Proofs.YtfpmhahjemdodaaGreatDoor
/-- What stands in a row when x times k words of b were taken from it from o on; q is to be taken behind them. -/
structure TakeT (R : List Nat) (o : Nat) (b : List Nat) (x k : Nat) (S : List Nat) (q : Nat) : Prop where
  len : S.length = R.length
  ws : Ws S
  far : ∀ j, j < o ∨ o + k ≤ j → S.getD j 0 = R.getD j 0
  sum : val ((S.drop o).take k) + x * val (b.take k) = val ((R.drop o).take k) + 4294967296 ^ k * q
  low : q < 4294967296
/-- What is taken at the place of the next word. -/
def takC (b : List Nat) (x k q : Nat) : Nat := q + b.getD k 0 * x
/-- The next word, and what is to be taken behind it. -/
def takW (r t : Nat) : Nat := (r + 4294967296 * 2 - t % 4294967296 - 0) % 4294967296
def takB (r t : Nat) : Nat := if r < t % 4294967296 + 0 then 1 else 0
theorem takC_le {b : List Nat} {x k q : Nat} (hb : Ws b) (hx : x < 4294967296) (hq : q < 4294967296) : b.getD k 0 * x ≤ 18446744065119617025 ∧ takC b x k q ≤ 18446744069414584320 := by
  have h1 := hb.getD k
  have h3 : b.getD k 0 * x ≤ 4294967295 * 4294967295 := Nat.mul_le_mul (by omega) (by omega)
  unfold takC
  omega
theorem tak_step (r t : Nat) (hr : r < 4294967296) : takW r t + t = r + 4294967296 * (t / 4294967296 + takB r t) := by
  unfold takW takB
  split <;> omega
theorem tak_low (r t : Nat) (ht : t ≤ 18446744069414584320) : t / 4294967296 + takB r t < 4294967296 := by
  unfold takB
  split <;> omega
theorem TakeT.next {R : List Nat} {o : Nat} {b : List Nat} {x k : Nat} {S : List Nat} {q : Nat} (h : TakeT R o b x k S q) (hR : Ws R) (hb : Ws b) (hx : x < 4294967296) (ho : o + k < R.length) :
    S.getD (o + k) 0 = R.getD (o + k) 0 ∧ TakeT R o b x (k + 1) (S.set (o + k) (takW (R.getD (o + k) 0) (takC b x k q))) (takC b x k q / 4294967296 + takB (R.getD (o + k) 0) (takC b x k q)) := by
  obtain ⟨h1, h2, h3, h4, h5⟩ := h
  have ht := (takC_le (k := k) hb hx h5).2
  have hl := tak_low (R.getD (o + k) 0) _ ht
  have hs := tak_step (R.getD (o + k) 0) (takC b x k q) (hR.getD _)
  have hc : takC b x k q = q + b.getD k 0 * x := rfl
  refine ⟨h3 _ (.inr (Nat.le_refl _)), by rw [List.length_set]; exact h1, h2.set (by unfold takW; omega), fun j hj => ?_, ?_, hl⟩
  · rw [getD_set_ne (by omega), h3 j (by omega)]
  · rw [val_part_succ _ o k (by rw [List.length_set]; omega), val_part_succ R o k ho, val_take_next b k, getD_set_eq (by omega)]
    rw [part_congr (l := S.set (o + k) (takW (R.getD (o + k) 0) (takC b x k q))) (m := S) o k (by rw [List.length_set]; omega) (by omega) (fun j _ hj => getD_set_ne (by omega))]
    rw [Nat.pow_succ]
    generalize takW (R.getD (o + k) 0) (takC b x k q) = W at *
    generalize takC b x k q / 4294967296 + takB (R.getD (o + k) 0) (takC b x k q) = Q at *
    generalize 4294967296 ^ k = K at *
    generalize takC b x k q = t at *
    generalize R.getD (o + k) 0 = r at *
    have e : K * (W + t) = K * (r + 4294967296 * Q) := by rw [hs]
    rw [hc] at e
    grind
/-- The state of a step: S holds at o what is left when often times b were taken, and one is to be given back, if below is 1. -/
structure StepT (R : List Nat) (o : Nat) (b : List Nat) (S : List Nat) (often below : Nat) : Prop where
  len : S.length = R.length
  ws : Ws S
  far : ∀ j, j < o ∨ o + (b.length + 1) ≤ j → S.getD j 0 = R.getD j 0
  sum : val ((S.drop o).take (b.length + 1)) + often * val b = val ((R.drop o).take (b.length + 1)) + 4294967296 ^ (b.length + 1) * below
  high : val ((R.drop o).take (b.length + 1)) / val b ≤ often
  low : below ≤ 1
  word : often < 4294967296
theorem StepT.fin {R : List Nat} {o : Nat} {b : List Nat} {S : List Nat} {often : Nat} (h : StepT R o b S often 0) (hb : 0 < val b) :
    often = val ((R.drop o).take (b.length + 1)) / val b ∧ val ((S.drop o).take (b.length + 1)) = val ((R.drop o).take (b.length + 1)) % val b := by
  obtain ⟨h1, h2, h3, h4, h5, _, _⟩ := h
  rw [Nat.mul_zero, Nat.add_zero] at h4
  generalize val ((R.drop o).take (b.length + 1)) = P at *
  generalize val ((S.drop o).take (b.length + 1)) = s at *
  generalize val b = D at *
  have e1 : often ≤ P / D := by rw [Nat.le_div_iff_mul_le hb]; omega
  have e2 : often = P / D := by omega
  refine ⟨e2, ?_⟩
  have e3 := Nat.div_add_mod P D
  rw [← e2, Nat.mul_comm] at e3
  omega
end Go.Proofs.YtfpmhahjemdodaaGreatDoor
namespace Go.Proofs.YtfpmhahjemdodaaGreatDoor
open Go.RowKit
end Go.Proofs.YtfpmhahjemdodaaGreatDoor
namespace Go.Proofs.YtfpmhahjemdodaaGreatDoor
open Go.RowKit
end Go.Proofs.YtfpmhahjemdodaaGreatDoor
namespace Go.Proofs.YtfpmhahjemdodaaGreatDoor
open Go.RowKit
/-- What Sub tells. -/
def SubP (v u : Nat) (w : World) (e : Ending) (w' : World) : Prop := if (lngB v || lngB u) = true then ErrPost 3 w e w' else if v < u then ErrPost 1 w e w' else NatPost (v - u) w e w'
end Go.Proofs.YtfpmhahjemdodaaGreatDoor
namespace Go.Proofs.YtfpmhahjemdodaaGreatDoor
open Go.RowKit
end Go.Proofs.YtfpmhahjemdodaaGreatDoor
namespace Go.Proofs.YtfpmhahjemdodaaGreatDoor
open Go.RowKit
theorem OwnW.low {B C : Nat} {l : List Nat} {v : Value} {w : World} (h : OwnW C l v w) (hB : B ≤ C) : OwnW B l v w :=
  ⟨h.1, h.2.imp id (fun ⟨g, cap, cur, e, h1, r⟩ => ⟨g, cap, cur, e, Nat.le_trans hB h1, r⟩)⟩
end Go.Proofs.YtfpmhahjemdodaaGreatDoor
namespace Go.Proofs.YtfpmhahjemdodaaGreatDoor
open Go.RowKit
def addL (v u : Nat) : List Nat := if (lngB v || lngB u) = true then [] else natL (v + u)
def addK (v u : Nat) : Nat := if (lngB v || lngB u) = true then 3 else natK (v + u)
theorem AddP.two {v u : Nat} {w w' : World} {e : Ending} (h : AddP v u w e w') : Two (addL v u) (addL v u).length (addK v u) w e w' := by
  unfold AddP at h
  unfold addL addK
  by_cases hl : (lngB v || lngB u) = true
  · rw [if_pos hl] at h ⊢; rw [if_pos hl]; exact h.two
  · rw [if_neg hl] at h ⊢; rw [if_neg hl]; exact h.two
def subL (v u : Nat) : List Nat := if (lngB v || lngB u) = true then [] else if v < u then [] else natL (v - u)
def subK (v u : Nat) : Nat := if (lngB v || lngB u) = true then 3 else if v < u then 1 else natK (v - u)
theorem SubP.two {v u : Nat} {w w' : World} {e : Ending} (h : SubP v u w e w') : Two (subL v u) (subL v u).length (subK v u) w e w' := by
  unfold SubP at h
  unfold subL subK
  by_cases hl : (lngB v || lngB u) = true
  · rw [if_pos hl] at h ⊢; rw [if_pos hl]; exact h.two
  · rw [if_neg hl] at h ⊢; rw [if_neg hl]
    by_cases hv : v < u
    · rw [if_pos hv] at h ⊢; rw [if_pos hv]; exact h.two
    · rw [if_neg hv] at h ⊢; rw [if_neg hv]; exact h.two
end Go.Proofs.YtfpmhahjemdodaaGreatDoor
namespace Go.Proofs.YtfpmhahjemdodaaGreatDoor
open Go.RowKit
/-- The words of a times 2^(32 o + s), one appended to the other. -/
structure UpT (o : Nat) (a : List Nat) (s i : Nat) (S : List Nat) : Prop where
  len : S.length = o + i
  ws : Ws S
  sum : val S + 4294967296 ^ (o + i) * carL a s i = 4294967296 ^ o * (2 ^ s * val (a.take i))
theorem carL_next (a : List Nat) (s i : Nat) (hs : s ≤ 32) : carL a s (i + 1) = a.getD i 0 * 2 ^ s / 4294967296 := by
  unfold carL; rw [if_neg (by omega), Nat.add_sub_cancel, mul_div_low _ s hs]
theorem UpT.next {o : Nat} {a : List Nat} {s i : Nat} {S : List Nat} (h : UpT o a s i S) (ha : Ws a) (hs : s ≤ 32) : UpT o a s (i + 1) (S ++ [shlW a s i]) := by
  obtain ⟨h1, h2, h3⟩ := h
  refine ⟨by rw [List.length_append, h1]; rfl, h2.append (Ws.cons (shlW_lt ha s i hs) Ws.nil), ?_⟩
  rw [val_snoc, h1, val_take_next, carL_next a s i hs]
  have e := step_words (4294967296 ^ (o + i)) (a.getD i 0 * 2 ^ s) (val S + 4294967296 ^ (o + i) * carL a s i) (4294967296 ^ o * (2 ^ s * (val (a.take i) + 4294967296 ^ i * a.getD i 0))) (by rw [h3, Nat.pow_add]; grind)
  rw [show o + (i + 1) = o + i + 1 by omega, Nat.pow_succ]
  unfold shlW
  grind
theorem UpT.whole {o : Nat} {a : List Nat} {s : Nat} {S : List Nat} (h : UpT o a s a.length S) : val (S ++ [carL a s a.length]) = val a * 2 ^ (32 * o + s) := by
  have h3 := h.sum
  rw [List.take_of_length_le (Nat.le_refl _)] at h3
  rw [val_snoc, h.len, h3, pow32, Nat.pow_add]
  grind
end Go.Proofs.YtfpmhahjemdodaaGreatDoor
namespace Go.Proofs.YtfpmhahjemdodaaGreatDoor
open Go.RowKit
end Go.Proofs.YtfpmhahjemdodaaGreatDoor
namespace Go.Proofs.YtfpmhahjemdodaaGreatDoor
end Go.Proofs.YtfpmhahjemdodaaGreatDoor
namespace Go.Proofs.YtfpmhahjemdodaaGreatDoor
open Go.RowKit
/-- A point ahead of the last digits, so many. -/
def ptL (l : List Nat) (last : Nat) : List Nat :=
  if last = 0 then l else (List.replicate (last + 1 - l.length) 48 ++ l).take (last + 1 - l.length + l.length - last) ++ 46 :: (List.replicate (last + 1 - l.length) 48 ++ l).drop (last + 1 - l.length + l.length - last)
/-- Digits with a point behind the first one, and an exponent. -/
def mnL (l : List Nat) : List Nat := if l.length ≤ 1 then l else l.take 1 ++ 46 :: l.drop 1
def sgL (e : Int) : List Nat := if e < 0 then [101, 45] else [101, 43]
def scL (l : List Nat) (e : Int) : List Nat := mnL l ++ sgL e ++ dL e.natAbs
end Go.Proofs.YtfpmhahjemdodaaGreatDoor
namespace Go.Proofs.YtfpmhahjemdodaaGreatDoor
open Go.RowKit
/-- Digits as a number's text, by where its point stands. -/
def plL (D : List Nat) (N : Int) : List Nat :=
  if N ≤ -6 ∨ 21 < N then scL D (N - 1) else if (D.length : Int) ≤ N then D ++ List.replicate (N - D.length).toNat 48 else ptL D ((D.length : Int) - N).toNat
/-- The text of a number that is finite and not below 0. -/
def PlQ (r : Nat) (L : List Nat) : Prop := (r = 0 ∧ L = [48]) ∨ (0 < r ∧ ∃ D N, SQ r D N ∧ L = plL D N)
/-- A text of units below 256. -/
def wdS (L : List Nat) : ByteArray := ⟨(bL L).toArray⟩
theorem twide_any (L : List Nat) (w : World) (hL : ∀ c ∈ L, c < 256) (hl : L.length ≤ 100000) : Calls Tryz.prog 19 #[.string (strOf L)] w fun e w' => e = .returned (.string (wdS L)) ∧ Below w.heap.size w w' := by
  have h := wide_any (strOf L) w (by rw [strOf_size]; omega)
  rw [show wdL (strOf L) = bl (strOf L) from bl_data _, bl_strOf hL] at h
  exact h
theorem vwide_any (L : List Nat) (w : World) (hL : ∀ c ∈ L, c < 256) (hl : L.length ≤ 100000) : Calls Tryz.prog 14 #[.string (strOf L)] w fun e w' => e = .returned (.string (wdS L)) ∧ Below w.heap.size w w' := by
  have h := rwide_any (strOf L) w (by rw [strOf_size]; omega)
  rw [show wdL (strOf L) = bl (strOf L) from bl_data _, bl_strOf hL] at h
  exact h
/-- Is a number below 0? -/
def ngB (x : Nat) : Bool := fneg x && decide (0 < rung x)
def sgx (x : Nat) : List Nat := if ngB x = true then [45] else []
/-- What stands behind a sign. -/
def SgQ (T : Nat → List Nat → Prop) (x : Nat) (L : List Nat) : Prop :=
  (fnan x = true ∧ L = [78, 97, 78]) ∨ (fnan x = false ∧ finf x = true ∧ L = sgx x ++ infL) ∨ (fnan x = false ∧ finf x = false ∧ ∃ l, T (rung x) l ∧ L = sgx x ++ l)
/-- A number's text. -/
def TxQ (x : Nat) (L : List Nat) : Prop := SgQ PlQ x L
end Go.Proofs.YtfpmhahjemdodaaGreatDoor
namespace Go.Proofs.YtfpmhahjemdodaaGreatDoor
open Go.RowKit Go.Shelf
set_option maxRecDepth 100000 in
set_option maxHeartbeats 1000000 in
theorem ifmt_1 (w : World) : Calls Tryz.prog 222 #[.int .u64 1, .int .i64 10] w fun e w' => e = .returned (.string ⟨#[49]⟩) ∧ w = w' := by
  have C := Tryz.internal_strconv_small 1 (by decide) w
  rw [show (⟨(Lib.decDigits 1).toArray⟩ : ByteArray) = ⟨#[49]⟩ by decide +kernel] at C
  go_enter Tryz.func222, Tryz.ntmps222
  go_wp2_with fail
  refine C.mono ?_
  rintro e w' ⟨rfl, rfl⟩
  clear C
  go_wp2
  go_ret
  exact ⟨rfl, rfl⟩
set_option maxRecDepth 100000 in
set_option maxHeartbeats 1000000 in
theorem cfmt_1 (w : World) : Calls Tryz.prog 204 #[.int .u64 1, .int .i64 10] w fun e w' => e = .returned (.string ⟨#[49]⟩) ∧ w = w' := by
  have C := ifmt_1 w
  go_enter Tryz.func204, Tryz.ntmps204
  go_wp2_with fail
  refine C.mono ?_
  rintro e w' ⟨rfl, rfl⟩
  clear C
  go_wp2
  go_ret
  exact ⟨rfl, rfl⟩
set_option maxRecDepth 100000 in
set_option maxHeartbeats 1000000 in
theorem ttrimmed_1 (w : World) : Calls Tryz.prog 195 #[.int .u64 1, .int .i64 0] w fun e w' => e = .returned (.tuple #[.string ⟨#[49]⟩, .int .i64 1]) ∧ w = w' := by
  have C1 := cfmt_1 w
  have C2 := Tryz.strings_TrimRight_one ⟨#[49]⟩ 48 (by decide) w (by decide)
  rw [show (⟨(Lib.trimRightB (⟨#[49]⟩ : ByteArray).data.toList 48).toArray⟩ : ByteArray) = ⟨#[49]⟩ by decide +kernel] at C2
  go_enter Tryz.func195, Tryz.ntmps195
  go_wp2_with fail
  refine C1.mono ?_
  rintro e w' ⟨rfl, rfl⟩
  clear C1
  go_wp2_with fail
  refine C2.mono ?_
  rintro e w' ⟨rfl, rfl⟩
  clear C2
  go_wp2
  go_ret2
  exact ⟨rfl, rfl⟩
set_option maxRecDepth 100000 in
set_option maxHeartbeats 1000000 in
theorem tshortest_1 (w : World) : Calls Tryz.prog 186 #[.float .f64 4607182418800017408] w fun e w' => e = .returned (.tuple #[.string ⟨#[49]⟩, .int .i64 1]) ∧ w = w' := by
  have C1 := ttrimmed_1 w
  have k1 : (convert 22 70 (.float .f64 4607182418800017408)).run Tryz.prog w = .ok (.int .u64 1) w := by kernel_rfl
  have k2 : (convert 70 22 (.int .u64 1)).run Tryz.prog w = .ok (.float .f64 4607182418800017408) w := by kernel_rfl
  go_enter Tryz.func186, Tryz.ntmps186
  go_wp2_with fail
  refine C1.mono ?_
  rintro e w' ⟨rfl, rfl⟩
  clear C1
  go_wp2
  go_ret2
  exact ⟨rfl, rfl⟩
set_option maxRecDepth 100000 in
set_option maxHeartbeats 1000000 in
theorem tplain_1 (w : World) : Calls Tryz.prog 166 #[.float .f64 4607182418800017408] w fun e w' => e = .returned (.string ⟨#[49]⟩) ∧ w = w' := by
  have C1 := tshortest_1 w
  have C2 := Tryz.strings_Repeat_zero ⟨#[48]⟩ w
  go_enter Tryz.func166, Tryz.ntmps166
  go_wp2_with fail
  refine C1.mono ?_
  rintro e w' ⟨rfl, rfl⟩
  clear C1
  go_wp2_with fail
  refine C2.mono ?_
  rintro e w' ⟨rfl, rfl⟩
  clear C2
  go_wp2
  go_ret
  exact ⟨rfl, rfl⟩
set_option maxRecDepth 100000 in
set_option maxHeartbeats 1000000 in
theorem mnan_1 (w : World) : Calls Tryz.prog 142 #[.float .f64 4607182418800017408] w fun e w' => e = .returned (.bool false) ∧ w = w' := by
  go_enter Tryz.func142, Tryz.ntmps142
  go_wp2
  go_ret
  exact ⟨rfl, rfl⟩
theorem f64from_run (x : Nat) (w : World) : (callFunc 184 #[.int .u64 x]).run Tryz.prog w = .ok (.value (.float .f64 x)) w := by
  rw [run_callFunc_extern (e := Extern.MathFloatBits.float64frombits) Tryz.func184 (by kernel_rfl) (by kernel_rfl) (by kernel_rfl) (by kernel_rfl)]
  rfl
set_option maxRecDepth 100000 in
set_option maxHeartbeats 1000000 in
theorem mabs_1 (w : World) : Calls Tryz.prog 160 #[.float .f64 4607182418800017408] w fun e w' => e = .returned (.float .f64 4607182418800017408) ∧ w = w' := by
  have h0 : bits BinOp.andNot IntKind.u64 (4607182418800017408 : Int) 9223372036854775808 = 4607182418800017408 := by decide +kernel
  have h1 : (callFunc 36 #[.float .f64 4607182418800017408]).run Tryz.prog w = .ok (.value (.int .u64 4607182418800017408)) w := f64bits_run 4607182418800017408 w
  have h2 : (callFunc 184 #[.int .u64 4607182418800017408]).run Tryz.prog w = .ok (.value (.float .f64 4607182418800017408)) w := f64from_run 4607182418800017408 w
  go_enter Tryz.func160, Tryz.ntmps160
  go_wp2
  go_ret
  exact ⟨rfl, rfl⟩
set_option maxRecDepth 100000 in
set_option maxHeartbeats 1000000 in
theorem minf_0 (w : World) : Calls Tryz.prog 110 #[.float .f64 4607182418800017408, .int .i64 0] w fun e w' => e = .returned (.bool false) ∧ w = w' := by
  have C1 := mabs_1 w
  go_enter Tryz.func110, Tryz.ntmps110
  go_wp2_with fail
  refine C1.mono ?_
  rintro e w' ⟨rfl, rfl⟩
  clear C1
  go_wp2
  go_ret
  exact ⟨rfl, rfl⟩
set_option maxRecDepth 100000 in
set_option maxHeartbeats 1000000 in
theorem minf_1 (w : World) : Calls Tryz.prog 110 #[.float .f64 4607182418800017408, .int .i64 1] w fun e w' => e = .returned (.bool false) ∧ w = w' := by
  have C1 := mabs_1 w
  go_enter Tryz.func110, Tryz.ntmps110
  go_wp2
  go_ret
  exact ⟨rfl, rfl⟩
set_option maxRecDepth 100000 in
set_option maxHeartbeats 1000000 in
theorem tsigned_1 (w : World) (CW : ∀ W, Calls Tryz.prog 19 #[.string ⟨#[49]⟩] W fun e w' => e = .returned (.string (wdS [49])) ∧ Below W.heap.size W w') :
    Calls Tryz.prog 165 #[.float .f64 4607182418800017408, .func (Fn.func 166) #[] #[]] w fun e w' => e = .returned (.string (wdS [49])) ∧ Below w.heap.size w w' := by
  have CN := mnan_1 w
  have CI := minf_0 w
  have CA := mabs_1 w
  have CT := tplain_1 w
  have CW := CW w
  obtain ⟨F, hF⟩ : ∃ F, wdS [49] = F := ⟨_, rfl⟩
  rw [hF] at CW ⊢
  clear hF
  go_enter Tryz.func165, Tryz.ntmps165
  go_wp2_with fail
  refine CN.mono ?_
  rintro e w' ⟨rfl, rfl⟩
  clear CN
  go_wp2_with fail
  refine CI.mono ?_
  rintro e w' ⟨rfl, rfl⟩
  clear CI
  go_wp2_with fail
  refine CA.mono ?_
  rintro e w' ⟨rfl, rfl⟩
  clear CA
  go_wp2_with fail
  refine CT.mono ?_
  rintro e w' ⟨rfl, rfl⟩
  clear CT
  go_wp2_with fail
  refine CW.mono ?_
  rintro e w2 ⟨rfl, b2⟩
  clear CW
  go_wp2
  go_ret
  exact ⟨rfl, b2⟩
set_option maxRecDepth 100000 in
set_option maxHeartbeats 1000000 in
theorem tText_1 (w : World) (CW : ∀ W, Calls Tryz.prog 19 #[.string ⟨#[49]⟩] W fun e w' => e = .returned (.string (wdS [49])) ∧ Below W.heap.size W w') :
    Calls Tryz.prog 112 #[.float .f64 4607182418800017408] w fun e w' => e = .returned (.string (wdS [49])) ∧ Below w.heap.size w w' := by
  have C := tsigned_1 w CW
  obtain ⟨F, hF⟩ : ∃ F, wdS [49] = F := ⟨_, rfl⟩
  rw [hF] at C ⊢
  clear hF CW
  go_enter Tryz.func112, Tryz.ntmps112
  go_wp2_with fail
  refine C.mono ?_
  rintro e w2 ⟨rfl, b2⟩
  clear C
  go_wp2
  go_ret
  exact ⟨rfl, b2⟩
end Go.Proofs.YtfpmhahjemdodaaGreatDoor
namespace Go.Proofs.YtfpmhahjemdodaaGreatDoor
def stN (c : Nat) : Bool := stB ((c : Nat) : Int)
def ptN (c : Nat) : Bool := ptB ((c : Nat) : Int)
/-- The first unit; 0 where there is none. -/
def hd0 (l : List Nat) : Nat := l.headD 0
/-! ### Between tokens -/
/-! ### Escapes -/
/-- May a unit stand there in a name? b: as the first one. -/
def fitN (b : Bool) (c : Nat) : Bool := if b = true then stN c else ptN c
end Go.Proofs.YtfpmhahjemdodaaGreatDoor
namespace Go.Proofs.YtfpmhahjemdodaaGreatDoor
open Go.RowKit
theorem un_drop (s : ByteArray) (k : Nat) : unV s (k : Int) = hd0 ((us s).drop k) := by
  unfold unV unOk
  by_cases h : k < ln s
  · rw [decide_eq_true (show (0 : Int) ≤ (k : Int) by omega), decide_eq_true (show (k : Int) < (ln s : Int) by omega), if_pos (by rfl), Int.toNat_natCast]
    unfold un hd0
    rw [List.getD_eq_getElem?_getD, List.headD_eq_head?_getD, List.head?_drop]
  · rw [decide_eq_false (show ¬ (k : Int) < (ln s : Int) by omega), Bool.and_false, if_neg (by simp)]
    rw [List.drop_eq_nil_iff.2 (by rw [us_length]; omega)]
    rfl
set_option maxRecDepth 100000 in
theorem xunit_any (s : ByteArray) (k : Nat) (w : World) (hs : s.size ≤ maxLen) :
    Calls Tryz.prog 179 #[.string s, .int .i64 k] w fun e w' => e = .returned (.int .u16 ((hd0 ((us s).drop k) : Nat) : Int)) ∧ ∃ n, w' = w.drewN n := by
  have C1 := Lib.hid (fun W => unit_any s k W hs)
  rw [un_drop] at C1
  obtain ⟨v, hv⟩ : ∃ v, hd0 ((us s).drop k) = v := ⟨_, rfl⟩
  rw [hv] at C1 ⊢
  go_enter Tryz.func179, Tryz.ntmps179
  go_wp2_with fail
  refine (C1.out _).mono ?_
  rintro e w' ⟨rfl, n, rfl⟩
  go_wp2
  go_ret
  exact ⟨rfl, n, rfl⟩
end Go.Proofs.YtfpmhahjemdodaaGreatDoor
namespace Go.Proofs.YtfpmhahjemdodaaGreatDoor
open Go.RowKit
theorem drop_step {L : List Nat} {k : Nat} (h : k < L.length) : ∃ c, L.drop k = c :: L.drop (k + 1) ∧ hd0 (L.drop k) = c := ⟨L[k], List.drop_eq_getElem_cons h, by rw [List.drop_eq_getElem_cons h]; rfl⟩
end Go.Proofs.YtfpmhahjemdodaaGreatDoor
namespace Go.Proofs.YtfpmhahjemdodaaGreatDoor
open Go.RowKit
set_option maxRecDepth 100000 in
theorem xfits_any (c i : Nat) (w : World) :
    Calls Tryz.prog 178 #[.int .u16 c, .int .i64 i] w fun e w' => e = .returned (.bool (fitN (i == 0) c)) ∧ w = w' := by
  have C1 := Lib.hid (fun W => start_any c W)
  have C2 := Lib.hid (fun W => part_any c W)
  by_cases h : i = 0
  · subst h
    have e : fitN (0 == 0) c = stB c := rfl
    rw [e]
    clear e
    go_enter Tryz.func178, Tryz.ntmps178
    go_wp2_with fail
    refine (C1.out _).mono ?_
    rintro e w' ⟨rfl, rfl⟩
    go_wp2
    go_ret
    exact ⟨rfl, rfl⟩
  · have e : fitN (i == 0) c = ptB c := by
      unfold fitN
      rw [if_neg (by simpa using h)]
      rfl
    rw [e]
    have g1 : (i : Int) ≠ 0 := by omega
    clear e h
    go_enter Tryz.func178, Tryz.ntmps178
    go_wp2_with fail
    refine (C2.out _).mono ?_
    rintro e w' ⟨rfl, rfl⟩
    go_wp2
    go_ret
    exact ⟨rfl, rfl⟩

end Go.Proofs.YtfpmhahjemdodaaGreatDoor
