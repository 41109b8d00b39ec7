/-
  Slices of words in memory: how they read, and what keeps that.
-/
import Derived.Test.YtbinpcoaghpcdaaPlain
import Derived.Test.YtbinpcoaghpcdaaProg
import Derived.WalkKit
import Derived.WalkSpells
import Derived.WalkLawsBesides
import Derived.Deep.QuietTactic
import Derived.BigQuiet
import Derived.Lib.Hide
import Derived.Deep.OwnRows
import Derived.Laws.CopyOwn
namespace Go.Proofs.Ytbinpcoaghpcdaa
open Go.RowKit
/-- The cells from A on read as the words l, in a block below B. -/
def RW (w : World) (B : Nat) (A : Option Addr) (l : List Nat) : Prop :=
  Ws l ∧ (0 < l.length → ∃ b off, A = some ⟨b, off, none⟩ ∧ b < B ∧ ∀ k u : Nat, l[k]? = some u → w.cell? ⟨b, off + k, none⟩ = some (.int .u32 (u : Int)))
/-- A slice that reads as the words l. -/
def Sl (w : World) (B : Nat) (v : Value) (l : List Nat) : Prop := ∃ A c, v = .slice A l.length c ∧ l.length ≤ c ∧ RW w B A l
theorem RW.nil (w : World) (B : Nat) (A : Option Addr) : RW w B A [] := ⟨Ws.nil, fun h => by simp at h⟩
theorem RW.keep {w w' : World} {B : Nat} {A : Option Addr} {l : List Nat} (h : RW w B A l) (hk : ∀ p : Addr, p.block < B → w'.cell? p = w.cell? p) : RW w' B A l := ⟨h.1, fun hl => by
  obtain ⟨b, off, e, hb, hc⟩ := h.2 hl
  exact ⟨b, off, e, hb, fun k u hu => (hk ⟨b, off + k, none⟩ hb).trans (hc k u hu)⟩⟩
theorem RW.more {w : World} {B C : Nat} {A : Option Addr} {l : List Nat} (h : RW w B A l) (hB : B ≤ C) : RW w C A l := ⟨h.1, fun hl => by
  obtain ⟨b, off, e, hb, hc⟩ := h.2 hl
  exact ⟨b, off, e, by omega, hc⟩⟩
theorem RW.below {w w' : World} {B : Nat} {A : Option Addr} {l : List Nat} (h : RW w B A l) (hb : Below B w w') : RW w' B A l := h.keep fun _ hp => hb.cell hp
theorem RW.drewN {w : World} {B : Nat} {A : Option Addr} {l : List Nat} (h : RW w B A l) (n : Nat) : RW (w.drewN n) B A l := h
theorem RW.take {w : World} {B : Nat} {A : Option Addr} {l : List Nat} (h : RW w B A l) (n : Nat) : RW w B A (l.take n) := ⟨h.1.take n, fun hl => by
  obtain ⟨b, off, e, hb, hc⟩ := h.2 (by rw [List.length_take] at hl; omega)
  refine ⟨b, off, e, hb, fun k u hu => hc k u ?_⟩
  rw [List.getElem?_take] at hu
  split at hu
  · exact hu
  · cases hu⟩
theorem RW.step {w w' : World} {A : Option Addr} {l : List Nat} (h : RW w w.heap.size A l) (hb : Below w.heap.size w w') : RW w' w'.heap.size A l := (h.below hb).more hb.size
theorem getD_some {l : List Nat} {k : Nat} (h : k < l.length) : l[k]? = some (l.getD k 0) := by
  rw [List.getD_eq_getElem?_getD, List.getElem?_eq_getElem h]; rfl
theorem getD_none {l : List Nat} {k : Nat} (h : l.length ≤ k) : l.getD k 0 = 0 := by
  rw [List.getD_eq_getElem?_getD, List.getElem?_eq_none h]; rfl
theorem Sl.nil (w : World) (B c : Nat) : Sl w B (.slice none 0 c) [] := ⟨none, c, rfl, Nat.zero_le _, RW.nil _ _ _⟩
theorem Sl.step {w w' : World} {v : Value} {l : List Nat} (h : Sl w w.heap.size v l) (hb : Below w.heap.size w w') : Sl w' w'.heap.size v l := by
  obtain ⟨A, c, e, hc, hr⟩ := h
  exact ⟨A, c, e, hc, hr.step hb⟩
theorem Sl.drewN {w : World} {B : Nat} {v : Value} {l : List Nat} (h : Sl w B v l) (n : Nat) : Sl (w.drewN n) B v l := h
theorem below_drewN' {B : Nat} {a w : World} (h : Below B a w) (n : Nat) : Below B a (w.drewN n) := ⟨h.os, h.tape, h.output, h.size, h.block⟩
theorem below_le {W w w' : World} (h : Below W.heap.size W w) (h2 : Below w.heap.size w w') : Below W.heap.size W w' := h.trans (h2.mono h.size)
theorem ret_i64 {a b : Int} (h : a = b) : Ending.returned (.int .i64 a) = .returned (.int .i64 b) := by rw [h]

end Go.Proofs.Ytbinpcoaghpcdaa
