/-
  Contract of addTimes: a list of words times a word, added to a part of a row. Contract of addTimes, once more: nothing but its row changes. Contracts of Long, checked, tooLong and answer. Contract of Mul of the program, and of the law's awake. Slices of words that come in as arguments. Bytes in memory: rows of the call's own; strings and their bytes. Contract of word; a word appended to a row of the call's own. Contracts of the functions on one digit, of group and of small. Contracts of allDigits and small of the program. Contracts of Cmp of the program and of the reference. Contract of Times of the reference. Contract of shiftLeft. Contracts of bits.Div32, of a natural copied to a row, and of divideWord. What a natural and an errno are, put as a list and a code. Contracts of word, of Add32, of Add and Plus. Contracts of Plus and Add of the reference. Contract of Add of the reference; how many words sums and products have. Contract of divideWord on the first words of a row; bytes of the call's own beside it. Contracts of slices.Reverse over bytes and of strings.TrimLeft of noughts.
-/
import Derived.Test.YtmlgjijjkikkhaaGreatDoorBA
import Derived.ProofKit
import Derived.OpenShut
import Derived.SizedLaws
import Derived.Laws.BytesString
import Derived.Laws.Cells
import Derived.Deep.RegionWith
import Derived.BigRegion
import GoSem.Core.Utf8
import Derived.WalkKit
import Derived.WalkSpells
import Derived.WalkLawsBesides
import Derived.Deep.QuietTactic
import Derived.BigQuiet
import Derived.Lib.Hide
import Derived.Deep.OwnRows
import Derived.Laws.CopyOwn
import Derived.Deep.AppendLies
import Derived.Lib.BitFns
import Derived.Lib.Strings
import Derived.Laws.BitsAllLaws
import Derived.Lib.LaidTab
import Derived.Test.YtmlgjijjkikkhaaGreatDoorProg
import Derived.Test.YtmlgjijjkikkhaaGreatDoorRows
import Derived.Test.YtmlgjijjkikkhaaGreatDoorShelf
namespace Go.Proofs.YtmlgjijjkikkhaaGreatDoor
open Go.RowKit
/-- What stands in a row when k words of b times x were added from o on, q to be carried. -/
structure AddT (R : List Nat) (o : Nat) (b : List Nat) (x : Nat) (k : Nat) (S : List Nat) (q : Nat) : Prop where
  len : S.length = R.length
  ws : Ws S
  far : ∀ j, j < o ∨ o + k ≤ j → S.getD j 0 = R.getD j 0
  sum : val ((S.drop o).take k) + 4294967296 ^ k * q = val ((R.drop o).take k) + x * val (b.take k)
  low : q < 4294967296
/-- What is at the place of the next word. -/
def addC (R : List Nat) (o : Nat) (b : List Nat) (x k q : Nat) : Nat := q + (b.getD k 0 * x + R.getD (o + k) 0)
theorem addC_lt {R : List Nat} {o : Nat} {b : List Nat} {x k q : Nat} (hR : Ws R) (hb : Ws b) (hx : x < 4294967296) (hq : q < 4294967296) :
    b.getD k 0 * x ≤ 18446744065119617025 ∧ b.getD k 0 * x + R.getD (o + k) 0 < 18446744073709551616 ∧ addC R o b x k q < 18446744073709551616 := by
  have h1 := hb.getD k
  have h2 := hR.getD (o + k)
  have h3 : b.getD k 0 * x ≤ 4294967295 * 4294967295 := Nat.mul_le_mul (by omega) (by omega)
  unfold addC
  omega
theorem AddT.next {R : List Nat} {o : Nat} {b : List Nat} {x k : Nat} {S : List Nat} {q : Nat} (h : AddT R o b x k S q) (hR : Ws R) (hb : Ws b) (hx : x < 4294967296) (hk : k < b.length) (ho : o + k < R.length) :
    S.getD (o + k) 0 = R.getD (o + k) 0 ∧ AddT R o b x (k + 1) (S.set (o + k) (addC R o b x k q % 4294967296)) (addC R o b x k q / 4294967296) := by
  obtain ⟨h1, h2, h3, h4, h5⟩ := h
  have hlt := (addC_lt (o := o) (k := k) hR hb hx h5).2.2
  obtain ⟨t, ht⟩ : ∃ t, addC R o b x k q = t := ⟨_, rfl⟩
  rw [ht] at hlt ⊢
  refine ⟨h3 _ (.inr (Nat.le_refl _)), by rw [List.length_set]; exact h1, h2.set (by omega), fun j hj => ?_, ?_, by omega⟩
  · rw [getD_set_ne (by omega), h3 j (by omega)]
  · rw [val_part_succ _ o k (by rw [List.length_set]; omega), val_part_succ R o k ho, val_take_succ b k hk, getD_set_eq (by omega)]
    rw [part_congr (l := S.set (o + k) (t % 4294967296)) (m := S) o k (by rw [List.length_set]; omega) (by omega) (fun j _ hj => getD_set_ne (by omega))]
    have e := step_words (4294967296 ^ k) t (val ((S.drop o).take k)) (val ((R.drop o).take k) + 4294967296 ^ k * R.getD (o + k) 0 + x * (val (b.take k) + 4294967296 ^ k * b.getD k 0)) (by
      rw [← ht]
      unfold addC
      grind)
    rw [Nat.pow_succ]
    exact e
end Go.Proofs.YtmlgjijjkikkhaaGreatDoor
namespace Go.Proofs.YtmlgjijjkikkhaaGreatDoor
open Go.RowKit
/-- Nothing but block g has changed. -/
structure Only (g : Nat) (w w' : World) : Prop where
  below : Below g w w'
  far : ∀ k, k ≠ g → w'.heap[k]? = w.heap[k]?
theorem Only.refl (g : Nat) (w : World) : Only g w w := ⟨Below.refl _ _, fun _ _ => rfl⟩
theorem Only.trans {g : Nat} {a b c : World} (h : Only g a b) (k : Only g b c) : Only g a c := ⟨h.below.trans k.below, fun i hi => (k.far i hi).trans (h.far i hi)⟩
theorem Only.setCell {g i : Nat} {a w : World} (h : Only g a w) (u : Value) : Only g a (w.setCell ⟨g, i, none⟩ u) :=
  ⟨h.below.setCell (Nat.le_refl _) u, fun k hk => (Below.heap_setCell w ⟨g, i, none⟩ u k hk).trans (h.far k hk)⟩
theorem Only.drewN {g : Nat} {a w : World} (h : Only g a w) (n : Nat) : Only g a (w.drewN n) := ⟨below_drewN' h.below n, h.far⟩
theorem Row.only {w w' : World} {g k : Nat} {R : List Nat} (h : Row w k R) (hk : k ≠ g) (hb : Only g w w') : Row w' k R := (hb.far k hk).trans h
end Go.Proofs.YtmlgjijjkikkhaaGreatDoor
namespace Go.Proofs.YtmlgjijjkikkhaaGreatDoor
open Go.RowKit
/-- Is a number too long? -/
def lngB (v : Nat) : Bool := decide (1024 < (wds v).length)
/-- What is told of a number: it, or that it is too long. -/
def NatPost (v : Nat) (w : World) (e : Ending) (w' : World) : Prop :=
  ∃ A n c k, e = .returned (.tuple #[.slice A n c, .int .i64 (k : Nat)]) ∧ (if lngB v = true then A = none ∧ n = 0 ∧ c = 0 ∧ k = 3 else n = (wds v).length ∧ n ≤ c ∧ k = 0 ∧ RW w' w'.heap.size A (wds v)) ∧ Below w.heap.size w w'
/-- That an error is told. -/
def ErrPost (k : Nat) (w : World) (e : Ending) (w' : World) : Prop := e = .returned (.tuple #[.slice none 0 0, .int .i64 (k : Nat)]) ∧ Below w.heap.size w w'
theorem NatPost.ok {v : Nat} {w w' : World} {A : Option Addr} {n c : Nat} (h : lngB v = false) (hn : n = (wds v).length) (hc : n ≤ c) (hr : RW w' w'.heap.size A (wds v)) (hb : Below w.heap.size w w') : NatPost v w (.returned (.tuple #[.slice A n c, .int .i64 0])) w' :=
  ⟨A, n, c, 0, rfl, by rw [if_neg (by rw [h]; simp)]; exact ⟨hn, hc, rfl, hr⟩, hb⟩
end Go.Proofs.YtmlgjijjkikkhaaGreatDoor
namespace Go.Proofs.YtmlgjijjkikkhaaGreatDoor
open Go.RowKit
/-- What stands in the row of a product when i words of a have been gone through. -/
structure MulT (a b : List Nat) (i : Nat) (P : List Nat) : Prop where
  len : P.length = a.length + b.length
  ws : Ws P
  zeros : ∀ j, i + b.length ≤ j → P.getD j 0 = 0
  sum : val (P.take (i + b.length)) = val (a.take i) * val b
theorem MulT.next {a b : List Nat} {i : Nat} {P S : List Nat} {q : Nat} (h : MulT a b i P) (hi : i < a.length) (hS : AddT P i b (a.getD i 0) b.length S q) : MulT a b (i + 1) (S.set (i + b.length) q) := by
  obtain ⟨h1, h2, h3, h4⟩ := h
  obtain ⟨g1, g2, g3, g4, g5⟩ := hS
  refine ⟨by rw [List.length_set]; omega, g2.set g5, fun j hj => ?_, ?_⟩
  · rw [getD_set_ne (by omega), g3 j (by omega), h3 j (by omega)]
  · have hb : b.take b.length = b := List.take_of_length_le (Nat.le_refl _)
    rw [hb] at g4
    have e1 : (S.set (i + b.length) q).take (i + 1 + b.length) = (S.set (i + b.length) q).take (i + b.length + 1) := by congr 1; omega
    rw [e1, val_take_succ _ _ (by rw [List.length_set]; omega), getD_set_eq (by omega), val_take_succ a i hi]
    rw [take_congr (l := S.set (i + b.length) q) (m := S) (i + b.length) (by rw [List.length_set]; omega) (by omega) (fun j hj => getD_set_ne (by omega))]
    rw [val_part S i b.length (by omega)]
    rw [take_congr (l := S) (m := P) i (by omega) (by omega) (fun j hj => g3 j (by omega))]
    rw [val_part P i b.length (by omega)] at h4
    rw [Nat.pow_add]
    have e2 : val (P.take i) + 4294967296 ^ i * val ((S.drop i).take b.length) + 4294967296 ^ i * 4294967296 ^ b.length * q = val (P.take i) + 4294967296 ^ i * (val ((S.drop i).take b.length) + 4294967296 ^ b.length * q) := by grind
    rw [e2, g4]
    grind
theorem MulT.whole {a b : List Nat} {P : List Nat} (h : MulT a b a.length P) : val P = val a * val b := by
  have := h.sum
  rw [List.take_of_length_le (by rw [h.len]; exact Nat.le_refl _), List.take_of_length_le (Nat.le_refl _)] at this
  exact this
/-- What Mul tells. -/
def MulPost (v u : Nat) (w : World) (e : Ending) (w' : World) : Prop := if (lngB v || lngB u) = true then ErrPost 3 w e w' else NatPost (v * u) w e w'
theorem MulPost.ok {v u : Nat} {w w' : World} {e : Ending} (h : MulPost v u w e w') (hv : lngB v = false) (hu : lngB u = false) : NatPost (v * u) w e w' := by
  unfold MulPost at h
  rw [if_neg (by rw [hv, hu]; simp)] at h
  exact h
theorem NatPost.get {v : Nat} {w w' : World} {e : Ending} (h : NatPost v w e w') (hl : lngB v = false) : ∃ A c, e = .returned (.tuple #[.slice A (wds v).length c, .int .i64 0]) ∧ ((wds v).length ≤ c ∧ RW w' w'.heap.size A (wds v)) ∧ Below w.heap.size w w' := by
  obtain ⟨A, n, c, k, h1, h2, h3⟩ := h
  rw [if_neg (by rw [hl]; simp)] at h2
  obtain ⟨rfl, h4, rfl, h5⟩ := h2
  exact ⟨A, c, h1, ⟨h4, h5⟩, h3⟩
end Go.Proofs.YtmlgjijjkikkhaaGreatDoor
namespace Go.Proofs.YtmlgjijjkikkhaaGreatDoor
open Go.ChangeShapes Go.WideShapes Go.ChangeAt Go.RowKit
end Go.Proofs.YtmlgjijjkikkhaaGreatDoor
namespace Go.Proofs.YtmlgjijjkikkhaaGreatDoor
open Go.RowKit
/-- A row of the call's own that holds the bytes l. -/
abbrev Own8 (B : Nat) (l : List Nat) (v : Value) (w : World) : Prop := w.ownsRow B 5 1 v l.length (l.map fun u => Value.int .u8 (u : Nat))
theorem Own8.nil (B : Nat) (w : World) : Own8 B [] (.slice none 0 0) w := World.ownsRow_nil _ _ _ _
theorem Own8.snoc {B : Nat} {L : List Nat} {u : Nat} {v : Value} {w : World} (h : w.ownsRow B 5 1 v (L.length + 1) (L.map (fun u => Value.int .u8 (u : Nat)) ++ [Value.int .u8 (u : Nat)])) : Own8 B (L ++ [u]) v w := by
  unfold Own8
  rw [List.length_append, List.map_append]
  exact h
theorem Own8.below {B : Nat} {l : List Nat} {v : Value} {w w' : World} (h : Own8 B l v w) (hb : Below w.heap.size w w') : Own8 B l v w' := by
  refine World.ownsRow.kept (row := none) h ⟨hb.os, hb.tape, hb.output, hb.size, fun k hk _ => hb.block k hk⟩ ?_
  cases v.ownBlock <;> simp
theorem Own8.cell {B : Nat} {l : List Nat} {g n c : Nat} {w : World} (h : Own8 B l (.slice (some ⟨g, 0, none⟩) n c) w) (k : Nat) (hk : k < l.length) :
    w.cell? ⟨g, k, none⟩ = some (.int .u8 (l.getD k 0 : Nat)) ∧ w.frozen? ⟨g, k, none⟩ = false := by
  rcases h.2 with ⟨e, _⟩ | ⟨g', cap, cur, e, hB, hg, hcap, hmax, hcur, htk⟩
  · cases e
  · cases e
    refine ⟨?_, by simp [World.frozen?, hg]⟩
    have := World.ownsRow.cells (g := g) h rfl k (.int .u8 (l.getD k 0 : Nat)) (by rw [List.getElem?_map, getD_some hk]; rfl)
    by_cases hz : k = 0
    · subst hz; simpa [Addr.add] using this
    · simpa [Addr.add, hz] using this
theorem Own8.set {B : Nat} {l : List Nat} {g n c : Nat} {w : World} (h : Own8 B l (.slice (some ⟨g, 0, none⟩) n c) w) (k u : Nat) :
    Own8 B (l.set k u) (.slice (some ⟨g, 0, none⟩) n c) (w.setCell ⟨g, k, none⟩ (.int .u8 (u : Nat))) := by
  rcases h.2 with ⟨e, _⟩ | ⟨g', cap, cur, e, hB, hg, hcap, hmax, hcur, htk⟩
  · cases e
  · cases e
    refine ⟨by rw [List.length_map, List.length_set, Nat.mul_one], .inr ⟨g, c, cur.set! k (.int .u8 (u : Nat)), by rw [List.length_set], hB, ?_, by rw [List.length_set]; exact hcap, hmax, ?_, ?_⟩⟩
    · simp [World.setCell, Array.getElem?_modify, hg]
    · simpa using hcur
    · rw [List.map_set, ← htk]
      simp only [Array.set!_eq_setIfInBounds, Array.toList_setIfInBounds, List.length_set]
      rw [List.take_set]
theorem Own8.row {B : Nat} {l : List Nat} {v : Value} {w : World} (h : Own8 B l v w) (h0 : 0 < l.length) : ∃ g c, v = .slice (some ⟨g, 0, none⟩) l.length c ∧ l.length ≤ c ∧ B ≤ g ∧ g < w.heap.size ∧ c ≤ maxLen := by
  rcases h.2 with ⟨_, h1⟩ | ⟨g, cap, cur, rfl, hB, hg, hcap, hmax, hcur, htk⟩
  · omega
  · refine ⟨g, cap, rfl, hcap, hB, ?_, hmax⟩
    rcases Nat.lt_or_ge g w.heap.size with hlt | hge
    · exact hlt
    · rw [Array.getElem?_eq_none hge] at hg; cases hg
end Go.Proofs.YtmlgjijjkikkhaaGreatDoor
namespace Go.Proofs.YtmlgjijjkikkhaaGreatDoor
open Go.RowKit
theorem OwnW.snoc {B : Nat} {L : List Nat} {u : Nat} {v : Value} {w : World} (h : w.ownsRow B 159 1 v (L.length + 1) (L.map (fun u => Value.int .u32 (u : Nat)) ++ [Value.int .u32 (u : Nat)])) : OwnW B (L ++ [u]) v w := by
  unfold OwnW
  rw [List.length_append, List.map_append]
  exact h
end Go.Proofs.YtmlgjijjkikkhaaGreatDoor
namespace Go.Proofs.YtmlgjijjkikkhaaGreatDoor
open Go.RowKit
end Go.Proofs.YtmlgjijjkikkhaaGreatDoor
namespace Go.Proofs.YtmlgjijjkikkhaaGreatDoor
open Go.RowKit
end Go.Proofs.YtmlgjijjkikkhaaGreatDoor
namespace Go.Proofs.YtmlgjijjkikkhaaGreatDoor
open Go.RowKit
end Go.Proofs.YtmlgjijjkikkhaaGreatDoor
namespace Go.Proofs.YtmlgjijjkikkhaaGreatDoor
open Go.RowKit
/-- What stands in the row of a product of the reference when i words of a have been gone through. -/
structure MulU (a b : List Nat) (i : Nat) (P : List Nat) : Prop where
  len : P.length = a.length + b.length + 1
  ws : Ws P
  zeros : ∀ j, i + b.length ≤ j → P.getD j 0 = 0
  sum : val (P.take (i + b.length)) = val (a.take i) * val b
theorem MulU.next {a b : List Nat} {i : Nat} {P S : List Nat} {q : Nat} (h : MulU a b i P) (hi : i < a.length) (hS : AddT P i b (a.getD i 0) b.length S q) : MulU a b (i + 1) (S.set (i + b.length) q) := by
  obtain ⟨h1, h2, h3, h4⟩ := h
  obtain ⟨g1, g2, g3, g4, g5⟩ := hS
  refine ⟨by rw [List.length_set]; omega, g2.set g5, fun j hj => ?_, ?_⟩
  · rw [getD_set_ne (by omega), g3 j (by omega), h3 j (by omega)]
  · have hb : b.take b.length = b := List.take_of_length_le (Nat.le_refl _)
    rw [hb] at g4
    have e1 : (S.set (i + b.length) q).take (i + 1 + b.length) = (S.set (i + b.length) q).take (i + b.length + 1) := by congr 1; omega
    rw [e1, val_take_succ _ _ (by rw [List.length_set]; omega), getD_set_eq (by omega), val_take_succ a i hi]
    rw [take_congr (l := S.set (i + b.length) q) (m := S) (i + b.length) (by rw [List.length_set]; omega) (by omega) (fun j hj => getD_set_ne (by omega))]
    rw [val_part S i b.length (by omega)]
    rw [take_congr (l := S) (m := P) i (by omega) (by omega) (fun j hj => g3 j (by omega))]
    rw [val_part P i b.length (by omega)] at h4
    rw [Nat.pow_add]
    have e2 : val (P.take i) + 4294967296 ^ i * val ((S.drop i).take b.length) + 4294967296 ^ i * 4294967296 ^ b.length * q = val (P.take i) + 4294967296 ^ i * (val ((S.drop i).take b.length) + 4294967296 ^ b.length * q) := by grind
    rw [e2, g4]
    grind
theorem MulU.whole {a b : List Nat} {P : List Nat} (h : MulU a b a.length P) : val P = val a * val b := by
  rw [val_take_zeros P (a.length + b.length) (fun j hj => h.zeros j hj), h.sum, List.take_of_length_le (Nat.le_refl _)]
end Go.Proofs.YtmlgjijjkikkhaaGreatDoor
namespace Go.Proofs.YtmlgjijjkikkhaaGreatDoor
open Go.RowKit
end Go.Proofs.YtmlgjijjkikkhaaGreatDoor
namespace Go.Proofs.YtmlgjijjkikkhaaGreatDoor
open Go.RowKit
end Go.Proofs.YtmlgjijjkikkhaaGreatDoor
namespace Go.Proofs.YtmlgjijjkikkhaaGreatDoor
open Go.RowKit
def Two (L : List Nat) (n k : Nat) (w : World) (e : Ending) (w' : World) : Prop := ∃ A c, e = .returned (.tuple #[.slice A n c, .int .i64 (k : Nat)]) ∧ (n ≤ c ∧ RW w' w'.heap.size A L) ∧ Below w.heap.size w w'
def natL (v : Nat) : List Nat := if lngB v = true then [] else wds v
def natK (v : Nat) : Nat := if lngB v = true then 3 else 0
theorem ErrPost.two {k : Nat} {w w' : World} {e : Ending} (h : ErrPost k w e w') : Two [] 0 k w e w' := ⟨none, 0, h.1, ⟨Nat.le_refl _, RW.nil _ _ _⟩, h.2⟩
theorem NatPost.two {v : Nat} {w w' : World} {e : Ending} (h : NatPost v w e w') : Two (natL v) (natL v).length (natK v) w e w' := by
  obtain ⟨A, n, c, k, h1, h2, h3⟩ := h
  unfold natL natK
  by_cases hl : lngB v = true
  · rw [if_pos hl] at h2
    obtain ⟨rfl, rfl, rfl, rfl⟩ := h2
    rw [if_pos hl, if_pos hl]
    exact ⟨none, 0, h1, ⟨Nat.le_refl _, RW.nil _ _ _⟩, h3⟩
  · rw [if_neg hl] at h2
    obtain ⟨rfl, h4, rfl, h5⟩ := h2
    rw [if_neg hl, if_neg hl]
    exact ⟨A, c, h1, ⟨h4, h5⟩, h3⟩
end Go.Proofs.YtmlgjijjkikkhaaGreatDoor
namespace Go.Proofs.YtmlgjijjkikkhaaGreatDoor
open Go.RowKit
/-- What Add tells. -/
def AddP (v u : Nat) (w : World) (e : Ending) (w' : World) : Prop := if (lngB v || lngB u) = true then ErrPost 3 w e w' else NatPost (v + u) w e w'
end Go.Proofs.YtmlgjijjkikkhaaGreatDoor
namespace Go.Proofs.YtmlgjijjkikkhaaGreatDoor
open Go.RowKit
end Go.Proofs.YtmlgjijjkikkhaaGreatDoor
namespace Go.Proofs.YtmlgjijjkikkhaaGreatDoor
open Go.RowKit
end Go.Proofs.YtmlgjijjkikkhaaGreatDoor
namespace Go.Proofs.YtmlgjijjkikkhaaGreatDoor
open Go.RowKit
theorem Own8.only {g B : Nat} {l : List Nat} {v : Value} {w w' : World} (h : Own8 B l v w) (hb : Only g w w') (hg : g < B) : Own8 B l v w' := by
  refine World.ownsRow.kept (row := some g) h ⟨hb.below.os, hb.below.tape, hb.below.output, hb.below.size, fun k _ hne => hb.far k (fun e => hne (by rw [e]))⟩ ?_
  cases hv : v.ownBlock with
  | none => exact .inl rfl
  | some b =>
    right
    intro e
    have := (World.ownsRow.lt h b hv).1
    cases e
    omega
end Go.Proofs.YtmlgjijjkikkhaaGreatDoor
namespace Go.Proofs.YtmlgjijjkikkhaaGreatDoor
open Go.RowKit
/-- Ends exchanged, k of them. -/
def rvF (N k : Nat) (l : List Nat) (x : Nat) : Nat := if x < k ∨ N < x + 1 + k then l.getD (N - 1 - x) 0 else l.getD x 0
/-- The list l of N, k of whose ends are exchanged. -/
structure RvT (l : List Nat) (N k : Nat) (S : List Nat) : Prop where
  len : S.length = N
  at_ : ∀ j, j < N → S.getD j 0 = rvF N k l j
theorem RvT.next {l : List Nat} {N k m : Nat} {S : List Nat} (h : RvT l N k S) (hm : m = N - 1 - k) (hk : k < m) :
    S.getD k 0 = l.getD k 0 ∧ S.getD m 0 = l.getD m 0 ∧ RvT l N (k + 1) ((S.set k (l.getD m 0)).set m (l.getD k 0)) := by
  have hl := h.len
  refine ⟨by rw [h.at_ k (by omega)]; unfold rvF; rw [if_neg (by omega)], by rw [h.at_ m (by omega)]; unfold rvF; rw [if_neg (by omega)], by simp [hl], fun j hj => ?_⟩
  by_cases h1 : j = m
  · subst h1
    rw [getD_set_eq (by simp; omega)]
    unfold rvF; rw [if_pos (by omega), show N - 1 - j = k by omega]
  · rw [getD_set_ne (by omega)]
    by_cases h2 : j = k
    · subst h2
      rw [getD_set_eq (by omega)]
      unfold rvF; rw [if_pos (by omega), ← hm]
    · rw [getD_set_ne (by omega), h.at_ j hj]
      unfold rvF
      by_cases h3 : j < k ∨ N < j + 1 + k
      · rw [if_pos h3, if_pos (by omega)]
      · rw [if_neg h3, if_neg (by omega)]
theorem RvT.fin {l : List Nat} {N k : Nat} {S : List Nat} (h : RvT l N k S) (hl : l.length = N) (hk : ¬ 2 * k + 1 < N) : S = l.reverse := by
  apply List.ext_getElem?
  intro j
  by_cases hj : j < N
  · have h1 := h.at_ j hj
    have e1 : rvF N k l j = l.getD (N - 1 - j) 0 := by
      unfold rvF
      by_cases h3 : j < k ∨ N < j + 1 + k
      · rw [if_pos h3]
      · rw [if_neg h3, show N - 1 - j = j by omega]
    rw [e1] at h1
    rw [getD_some (by rw [h.len]; exact hj), h1, List.getElem?_reverse (by omega), hl]
    rw [getD_some (by omega)]
  · rw [List.getElem?_eq_none (by rw [h.len]; omega), List.getElem?_eq_none (by rw [List.length_reverse]; omega)]
end Go.Proofs.YtmlgjijjkikkhaaGreatDoor
