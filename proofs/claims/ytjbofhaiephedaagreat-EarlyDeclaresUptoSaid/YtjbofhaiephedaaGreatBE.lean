/-
  Contracts of timesPlus of the program and of small of the reference. Contract of Parse of the program. Contract of Parse of the reference. Contract of strings.TrimLeft of noughts. Contract of Text of the program. Contract of Text of the reference. Contracts of Text and Parse of both, whatever the radix.
-/
import Derived.Deep.RegionHeld3
import Derived.Laws.Closers25b
import Derived.ProofKit
import Derived.OpenShut
import Derived.SizedLaws
import Derived.Laws.BytesString
import Derived.Laws.Cells
import Derived.Deep.RegionWith
import Derived.BigRegion
import GoSem.Core.Utf8
import Derived.WalkKit
import Derived.WalkSpells
import Derived.WalkLawsBesides
import Derived.Deep.QuietTactic
import Derived.BigQuiet
import Derived.Lib.Hide
import Derived.Deep.OwnRows
import Derived.Laws.CopyOwn
import Derived.Deep.AppendLies
import Derived.Lib.BitFns
import Derived.Lib.Strings
import Derived.Laws.BitsAllLaws
import Derived.Lib.LaidTab
import Derived.Test.YtjbofhaiephedaaGreatProg
import Derived.Test.YtjbofhaiephedaaGreatRows
import Derived.Test.YtjbofhaiephedaaGreatShelf
import Derived.Test.YtjbofhaiephedaaGreatBB
namespace Go.Proofs.YtjbofhaiephedaaGreat
open Go.RowKit
/-- A list of words times x, and y, the first k words written. -/
structure TpT (a : List Nat) (x y k : Nat) (S : List Nat) (q : Nat) : Prop where
  len : S.length = a.length
  ws : Ws S
  far : ∀ j, k ≤ j → S.getD j 0 = a.getD j 0
  sum : val (S.take k) + 4294967296 ^ k * q = x * val (a.take k) + y
  low : q < 4294967296
def tpC (a : List Nat) (x k q : Nat) : Nat := q + a.getD k 0 * x
theorem tpC_lt {a : List Nat} {x k q : Nat} (ha : Ws a) (hx : x < 4294967296) (hq : q < 4294967296) : a.getD k 0 * x ≤ 18446744065119617025 ∧ tpC a x k q ≤ 18446744069414584320 := by
  have h1 := ha.getD k
  have h3 : a.getD k 0 * x ≤ 4294967295 * 4294967295 := Nat.mul_le_mul (by omega) (by omega)
  unfold tpC
  omega
theorem TpT.next {a : List Nat} {x y k : Nat} {S : List Nat} {q : Nat} (h : TpT a x y k S q) (ha : Ws a) (hx : x < 4294967296) (hk : k < a.length) :
    TpT a x y (k + 1) (S.set k (tpC a x k q % 4294967296)) (tpC a x k q / 4294967296) := by
  obtain ⟨h1, h2, h3, h4, h5⟩ := h
  have hc := (tpC_lt (k := k) ha hx h5).2
  refine ⟨by rw [List.length_set]; exact h1, h2.set (by omega), fun j hj => by rw [getD_set_ne (by omega)]; exact h3 j (by omega), ?_, by omega⟩
  rw [val_take_succ _ k (by rw [List.length_set]; omega), val_take_succ a k hk, getD_set_eq (by omega)]
  rw [take_congr (l := S.set k (tpC a x k q % 4294967296)) (m := S) k (by rw [List.length_set]; omega) (by omega) (fun j hj => getD_set_ne (by omega))]
  have e := step_words (4294967296 ^ k) (tpC a x k q) (val (S.take k)) (x * (val (a.take k) + 4294967296 ^ k * a.getD k 0) + y) (by
    have : tpC a x k q = q + a.getD k 0 * x := rfl
    rw [this]
    grind)
  rw [Nat.pow_succ]
  exact e
/-- Writing a word of a row of the call's own. -/
theorem OwnW.cell {B : Nat} {l : List Nat} {g n c : Nat} {w : World} (h : OwnW B l (.slice (some ⟨g, 0, none⟩) n c) w) (k : Nat) (hk : k < l.length) :
    w.cell? ⟨g, k, none⟩ = some (.int .u32 (l.getD k 0 : Nat)) ∧ w.frozen? ⟨g, k, none⟩ = false := by
  rcases h.2 with ⟨e, _⟩ | ⟨g', cap, cur, e, hB, hg, hcap, hmax, hcur, htk⟩
  · cases e
  · cases e
    refine ⟨?_, by simp [World.frozen?, hg]⟩
    have := World.ownsRow.cells (g := g) h rfl k (.int .u32 (l.getD k 0 : Nat)) (by rw [List.getElem?_map, getD_some hk]; rfl)
    by_cases hz : k = 0
    · subst hz; simpa [Addr.add] using this
    · simpa [Addr.add, hz] using this
theorem OwnW.set {B : Nat} {l : List Nat} {g n c : Nat} {w : World} (h : OwnW B l (.slice (some ⟨g, 0, none⟩) n c) w) (k u : Nat) :
    OwnW B (l.set k u) (.slice (some ⟨g, 0, none⟩) n c) (w.setCell ⟨g, k, none⟩ (.int .u32 (u : Nat))) := by
  rcases h.2 with ⟨e, _⟩ | ⟨g', cap, cur, e, hB, hg, hcap, hmax, hcur, htk⟩
  · cases e
  · cases e
    refine ⟨by rw [List.length_map, List.length_set, Nat.mul_one], .inr ⟨g, c, cur.set! k (.int .u32 (u : Nat)), by rw [List.length_set], hB, ?_, by rw [List.length_set]; exact hcap, hmax, ?_, ?_⟩⟩
    · simp [World.setCell, Array.getElem?_modify, hg]
    · simpa using hcur
    · rw [List.map_set, ← htk]
      simp only [Array.set!_eq_setIfInBounds, Array.toList_setIfInBounds, List.length_set]
      rw [List.take_set]
/-- The state of the division by a word d in a row of its own: the words from i on are the quotient's, and r is the rest so far. -/
structure SmT (a : List Nat) (d i : Nat) (S : List Nat) (r : Nat) : Prop where
  len : S.length = a.length
  ws : Ws S
  sum : val (S.drop i) * d + r = val (a.drop i)
  low : r < d
theorem SmT.next {a : List Nat} {d i : Nat} {S : List Nat} {r : Nat} (h : SmT a d (i + 1) S r) (ha : Ws a) (hi : i < a.length) (hd : d < 4294967296) :
    (r * 4294967296 + a.getD i 0) / d < 4294967296 ∧ r * 4294967296 + a.getD i 0 < 18446744073709551616 ∧ SmT a d i (S.set i ((r * 4294967296 + a.getD i 0) / d)) ((r * 4294967296 + a.getD i 0) % d) := by
  obtain ⟨h1, h2, h4, h5⟩ := h
  have hx := ha.getD i
  have hd0 : 0 < d := by omega
  have hq : (r * 4294967296 + a.getD i 0) / d < 4294967296 := by
    rw [Nat.div_lt_iff_lt_mul hd0]
    have : (r + 1) * 4294967296 ≤ d * 4294967296 := Nat.mul_le_mul_right _ h5
    omega
  refine ⟨hq, by omega, by rw [List.length_set]; exact h1, h2.set hq, ?_, Nat.mod_lt _ hd0⟩
  rw [val_drop_cons _ i (by rw [List.length_set]; omega), getD_set_eq (by omega), val_drop_cons a i hi, List.drop_set, if_pos (by omega)]
  have e := Nat.mod_add_div (r * 4294967296 + a.getD i 0) d
  generalize (r * 4294967296 + a.getD i 0) / d = q at *
  generalize (r * 4294967296 + a.getD i 0) % d = z at *
  generalize val (S.drop (i + 1)) = V at *
  rw [← h4]
  grind
end Go.Proofs.YtjbofhaiephedaaGreat
namespace Go.Proofs.YtjbofhaiephedaaGreat
open Go.RowKit
theorem OwnW.below {B : Nat} {l : List Nat} {v : Value} {w w' : World} (h : OwnW B l v w) (hb : Below w.heap.size w w') : OwnW B l v w' := by
  refine World.ownsRow.kept (row := none) h ⟨hb.os, hb.tape, hb.output, hb.size, fun k hk _ => hb.block k hk⟩ ?_
  cases v.ownBlock <;> simp
/-- The rest of a string from o on. -/
structure Rest (s : ByteArray) (o : Nat) (t : ByteArray) : Prop where
  le : o ≤ s.size
  size : t.size = s.size - o
  byte : ∀ i, i < t.size → btn t i = btn s (o + i)
theorem btn_extract (t : ByteArray) (a b i : Nat) (hi : i < b - a) (hb : b ≤ t.size) : btn (t.extract a b) i = btn t (a + i) := by
  have h1 : i < (t.extract a b).size := by rw [ByteArray.size_extract]; omega
  rw [← btn_eq _ i h1, ← btn_eq t (a + i) (by omega), ByteArray.getElem_extract]
theorem Rest.all (s : ByteArray) : Rest s 0 s := ⟨Nat.zero_le _, rfl, fun i _ => by rw [Nat.zero_add]⟩
theorem Rest.next {s t : ByteArray} {o m : Nat} (h : Rest s o t) (hm : m ≤ t.size) : Rest s (o + m) (t.extract m t.size) :=
  ⟨by have := h.le; have := h.size; omega, by rw [ByteArray.size_extract, h.size]; omega, fun i hi => by
    have h1 : i < t.size - m := by rw [ByteArray.size_extract] at hi; omega
    rw [btn_extract t m t.size i h1 (Nat.le_refl _), h.byte _ (by omega), Nat.add_assoc]⟩
end Go.Proofs.YtjbofhaiephedaaGreat
namespace Go.Proofs.YtjbofhaiephedaaGreat
open Go.RowKit
theorem alloc_below {w W : World} (o : Obj) (h : Below w.heap.size w W) : Below w.heap.size w (W.alloc o) := h.alloc h.size _
end Go.Proofs.YtjbofhaiephedaaGreat
namespace Go.Proofs.YtjbofhaiephedaaGreat
open Go.RowKit
end Go.Proofs.YtjbofhaiephedaaGreat
namespace Go.Proofs.YtjbofhaiephedaaGreat
open Go.RowKit
/-- How long a slice is. -/
def slLen : Value → Nat
  | .slice _ n _ => n
  | _ => 0
theorem Own8.len {B : Nat} {l : List Nat} {v : Value} {w : World} (h : Own8 B l v w) : slLen v = l.length := by
  rcases h.2 with ⟨rfl, h1⟩ | ⟨g, cap, cur, rfl, _⟩
  · rw [h1]; rfl
  · rfl
/-- The letters told when v is left. -/
structure TextT (r n c v k : Nat) (D : List Nat) : Prop where
  ds : Ds r D
  sum : dv r D + r ^ D.length * v = n
  len : D.length = c * k
  low : 2 ^ k * v ≤ n
/-- .. and when q is left of a part of c digits, j of which were told; v is left behind it. -/
structure TextU (r n c v j q N : Nat) (E : List Nat) : Prop where
  ds : Ds r E
  sum : dv r E + r ^ E.length * (q + r ^ (c - j) * v) = n
  len : E.length = N + j
  low : q < r ^ (c - j)
theorem TextT.part {r n c v k p : Nat} {D : List Nat} (h : TextT r n c v k D) (hp : p = r ^ c) (hp0 : 0 < p) : TextU r n c (v / p) 0 (v % p) D.length D := by
  refine ⟨h.ds, ?_, rfl, by rw [Nat.sub_zero, ← hp]; exact Nat.mod_lt _ hp0⟩
  rw [Nat.sub_zero, ← hp, Nat.mod_add_div]
  exact h.sum
theorem TextU.next {r n c v j q N : Nat} {E : List Nat} (h : TextU r n c v j q N E) (hr : 0 < r) (hj : j < c) : TextU r n c v (j + 1) (q / r) N (E ++ [q % r]) := by
  obtain ⟨h1, h2, h3, h4⟩ := h
  obtain ⟨i, hi⟩ : ∃ i, c - j = i + 1 := ⟨c - j - 1, by omega⟩
  rw [hi] at h2 h4
  have hi2 : c - (j + 1) = i := by omega
  refine ⟨h1.snoc (Nat.mod_lt _ hr), ?_, by rw [List.length_append, h3]; rfl, by rw [hi2, Nat.div_lt_iff_lt_mul hr, ← Nat.pow_succ]; exact h4⟩
  rw [dv_snoc, List.length_append, List.length_singleton, hi2, Nat.pow_succ, ← h2, Nat.pow_succ]
  have e := Nat.mod_add_div q r
  generalize q % r = z at *
  generalize q / r = x at *
  rw [← e]
  grind
end Go.Proofs.YtjbofhaiephedaaGreat
namespace Go.Proofs.YtjbofhaiephedaaGreat
open Go.RowKit
/-- The letters told when v is left; no nought was told last, if nothing is left. -/
structure RtxT (r n v k : Nat) (D : List Nat) : Prop where
  base : TextT r n 1 v k D
  last : v = 0 → dstrip D = D
theorem RtxT.next {r n v k : Nat} {D : List Nat} (h : RtxT r n v k D) (hr : 2 ≤ r) (hv : 0 < v) : RtxT r n (v / r) (k + 1) (D ++ [v % r]) := by
  obtain ⟨⟨h1, h2, h3, h4⟩, _⟩ := h
  have hm : v % r < r := Nat.mod_lt _ (by omega)
  have e := Nat.mod_add_div v r
  refine ⟨⟨h1.snoc hm, ?_, by rw [List.length_append, h3]; simp, ?_⟩, fun h0 => ?_⟩
  · rw [dv_snoc, List.length_append, List.length_singleton, Nat.pow_succ, ← h2]
    generalize v % r = z at *
    generalize v / r = x at *
    rw [← e]
    grind
  · have h5 : 2 * (v / r) ≤ v := by
      have h6 : v / r * 2 ≤ v / r * r := Nat.mul_le_mul_left _ hr
      have h7 := Nat.div_mul_le_self v r
      omega
    rw [Nat.pow_succ, Nat.mul_assoc]
    exact Nat.le_trans (Nat.mul_le_mul_left _ h5) h4
  · refine dstrip_pos (.inr ?_)
    rw [List.getLast?_append, List.getLast?_singleton]
    simp
    rw [h0, Nat.mul_zero, Nat.add_zero] at e
    omega
theorem OwnW.grown {C : Nat} {l : List Nat} {v bv : Value} {w w' : World} (h : OwnW C l v w) (hgr : w.grownBy w' bv.ownBlock) (hb : ∀ j, bv.ownBlock = some j → j < C) : OwnW C l v w' := by
  refine World.ownsRow.kept h hgr ?_
  cases hv : v.ownBlock with
  | none => exact .inl rfl
  | some b =>
    right
    intro e
    have h1 := (World.ownsRow.lt h b hv).1
    have h2 := hb b e.symm
    omega
end Go.Proofs.YtjbofhaiephedaaGreat
namespace Go.Proofs.YtjbofhaiephedaaGreat
open Go.RowKit
end Go.Proofs.YtjbofhaiephedaaGreat
