/-
  Values of the language as plain data: which may be; which are the same. No program in it.
-/
import Derived.Laws.FloatArith
import Derived.Laws.Externs
import Derived.Deep.RegionWith
import Ieee.Arith
import GoSem.Core.Float
import GoSem.Core.Utf8
import Derived.WalkKit
import Derived.WalkSpells
import Derived.WalkLawsBesides
import Derived.Deep.QuietTactic
import Derived.BigQuiet
import Derived.Lib.Hide
import Derived.Deep.OwnRows
import Derived.Laws.CopyOwn
import Derived.Deep.AppendLies
import Derived.Lib.BitFns
import Derived.Lib.Strings
import Derived.Laws.BitsAllLaws
import Derived.Lib.LaidTab
import Derived.Lib.ItoaNum
import Derived.Deep.DeepCutAuto
import Derived.ProofKit
import Derived.OpenShut
import Derived.SizedLaws
import Derived.Laws.BytesString
import Derived.Laws.Cells
import Derived.BigRegion
import Derived.Test.YtlkgijinckhkkaaProg
import Derived.Test.YtlkgijinckhkkaaRows
import Derived.Test.YtlkgijinckhkkaaShelf
import Derived.Test.YtlkgijinckhkkaaCp
namespace Go.Proofs.Ytlkgijinckhkkaa
open Go.RowKit
/-- A value: its kind, its truth, its number, its text, its object. -/
structure Val where
  vk : Int
  vb : Bool
  vn : Nat
  vs : ByteArray
  vo : Int
def valV (v : Val) : Value := .agg #[.int .i64 v.vk, .bool v.vb, .float .f64 v.vn, .string v.vs, .int .i64 v.vo]
def valU : Val := ⟨0, false, 0, ⟨#[]⟩, 0⟩
def valN : Val := ⟨1, false, 0, ⟨#[]⟩, 0⟩
def valB (b : Bool) : Val := ⟨2, b, 0, ⟨#[]⟩, 0⟩
def valF (n : Nat) : Val := ⟨3, false, n, ⟨#[]⟩, 0⟩
def valS (s : ByteArray) : Val := ⟨4, false, 0, s, 0⟩
def valO (o : Int) : Val := ⟨5, false, 0, ⟨#[]⟩, o⟩
/-- May a value be? -/
def mayB (v : Val) : Bool :=
  decide (0 ≤ v.vk) && decide (v.vk ≤ 5) && (!v.vb || v.vk == 2) && (v.vn == 0 || (v.vk == 3 && cn v.vn == v.vn)) &&
    (v.vs.toList.isEmpty || (v.vk == 4 && v.vs.size % 2 == 0)) && (v.vo == 0 || (v.vk == 5 && decide (0 < v.vo)))
theorem bytes_none {s : ByteArray} (h : s.toList.isEmpty = true) : s = ⟨#[]⟩ := by
  rw [ByteArray.toList_eq] at h
  obtain ⟨⟨l⟩⟩ := s
  cases l with
  | nil => rfl
  | cons a l => simp at h
theorem may_cases {v : Val} (h : mayB v = true) :
    v = valU ∨ v = valN ∨ (∃ b, v = valB b) ∨ (∃ n, cn n = n ∧ v = valF n) ∨ (∃ s, s.size % 2 = 0 ∧ v = valS s) ∨ (∃ o, 0 ≤ o ∧ v = valO o) := by
  obtain ⟨k, b, n, s, o⟩ := v
  unfold mayB at h
  simp only [Bool.and_eq_true, Bool.or_eq_true, Bool.not_eq_true', decide_eq_true_iff, beq_iff_eq] at h
  obtain ⟨⟨⟨⟨⟨h0, h1⟩, hb⟩, hn⟩, hs⟩, ho⟩ := h
  have hk : k = 0 ∨ k = 1 ∨ k = 2 ∨ k = 3 ∨ k = 4 ∨ k = 5 := by omega
  have hs' : s = ⟨#[]⟩ ∨ (k = 4 ∧ s.size % 2 = 0) := hs.imp bytes_none id
  rcases hk with rfl | rfl | rfl | rfl | rfl | rfl
  · obtain rfl : b = false := hb.resolve_right (by omega)
    obtain rfl : n = 0 := hn.resolve_right (by omega)
    obtain rfl := hs'.resolve_right (by omega)
    obtain rfl : o = 0 := ho.resolve_right (by omega)
    exact .inl rfl
  · obtain rfl : b = false := hb.resolve_right (by omega)
    obtain rfl : n = 0 := hn.resolve_right (by omega)
    obtain rfl := hs'.resolve_right (by omega)
    obtain rfl : o = 0 := ho.resolve_right (by omega)
    exact .inr (.inl rfl)
  · obtain rfl : n = 0 := hn.resolve_right (by omega)
    obtain rfl := hs'.resolve_right (by omega)
    obtain rfl : o = 0 := ho.resolve_right (by omega)
    exact .inr (.inr (.inl ⟨b, rfl⟩))
  · obtain rfl : b = false := hb.resolve_right (by omega)
    obtain rfl := hs'.resolve_right (by omega)
    obtain rfl : o = 0 := ho.resolve_right (by omega)
    refine .inr (.inr (.inr (.inl ⟨n, ?_, rfl⟩)))
    rcases hn with rfl | hn
    · decide
    · exact hn.2
  · obtain rfl : b = false := hb.resolve_right (by omega)
    obtain rfl : n = 0 := hn.resolve_right (by omega)
    obtain rfl : o = 0 := ho.resolve_right (by omega)
    refine .inr (.inr (.inr (.inr (.inl ⟨s, ?_, rfl⟩))))
    rcases hs' with rfl | hs
    · rfl
    · exact hs.2
  · obtain rfl : b = false := hb.resolve_right (by omega)
    obtain rfl : n = 0 := hn.resolve_right (by omega)
    obtain rfl := hs'.resolve_right (by omega)
    refine .inr (.inr (.inr (.inr (.inr ⟨o, ?_, rfl⟩))))
    rcases ho with rfl | ho
    · omega
    · omega
def alikeV (x y : Val) : Bool := x.vb == y.vb && x.vs.toList == y.vs.toList && x.vo == y.vo
def strictV (x y : Val) : Bool := x.vk == y.vk && alikeV x y && oeq x.vn y.vn
def sameW (x y : Val) : Bool := x.vk == y.vk && alikeV x y && sameV x.vn y.vn
def bitsV (x y : Val) : Bool := x.vk == y.vk && alikeV x y && x.vn == y.vn
theorem order_le (x : Nat) : (9218868437227405312 < rung x ∧ fnan x = true) ∨ (rung x ≤ 9218868437227405312 ∧ fnan x = false) := by
  unfold fnan
  by_cases h : 9218868437227405312 < rung x
  · exact .inl ⟨h, decide_eq_true h⟩
  · exact .inr ⟨by omega, decide_eq_false h⟩
theorem oeq_fin {x y : Nat} (hx : rung x ≤ 9218868437227405312) (hy : rung y ≤ 9218868437227405312) : oeq x y = decide (frank x = frank y) := by
  unfold oeq
  rw [show FloatKind.f64.format.order x y = Ieee.double.order x y from rfl, order_eq hx hy]
  exact cmp_eq _ _
theorem olt_fin {x y : Nat} (hx : rung x ≤ 9218868437227405312) (hy : rung y ≤ 9218868437227405312) : olt x y = decide (frank x < frank y) := by
  unfold olt
  rw [show FloatKind.f64.format.order x y = Ieee.double.order x y from rfl, order_eq hx hy]
  exact cmp_lt _ _
theorem oeq_none {x y : Nat} (h : 9218868437227405312 < rung x ∨ 9218868437227405312 < rung y) : oeq x y = false ∧ olt x y = false := by
  unfold oeq olt
  rw [show FloatKind.f64.format.order x y = Ieee.double.order x y from rfl, order_nan h]
  exact ⟨rfl, rfl⟩
theorem oeq_comm (x y : Nat) : oeq x y = oeq y x := by
  rcases order_le x with ⟨h, _⟩ | ⟨h, _⟩
  · rw [(oeq_none (.inl h)).1, (oeq_none (.inr h)).1]
  · rcases order_le y with ⟨g, _⟩ | ⟨g, _⟩
    · rw [(oeq_none (.inr g)).1, (oeq_none (.inl g)).1]
    · rw [oeq_fin h g, oeq_fin g h, Bool.eq_iff_iff, decide_eq_true_iff, decide_eq_true_iff]
      exact eq_comm
theorem oeq_self (x : Nat) : oeq x x = !fnan x := by
  rcases order_le x with ⟨h, e⟩ | ⟨h, e⟩
  · rw [(oeq_none (.inl h)).1, e]; rfl
  · rw [oeq_fin h h, e]; simp
theorem olt_asymm {x y : Nat} (h : olt x y = true) : olt y x = false := by
  rcases order_le x with ⟨g, _⟩ | ⟨g, _⟩
  · exact (oeq_none (.inr g)).2
  · rcases order_le y with ⟨k, _⟩ | ⟨k, _⟩
    · exact (oeq_none (.inl k)).2
    · rw [olt_fin g k, decide_eq_true_iff] at h
      rw [olt_fin k g, decide_eq_false_iff_not]
      omega
theorem bool_comm (a b : Bool) : (a == b) = (b == a) := by cases a <;> cases b <;> rfl
theorem int_comm (a b : Int) : (a == b) = (b == a) := by rw [Bool.eq_iff_iff, beq_iff_eq, beq_iff_eq]; exact eq_comm
theorem list_comm (a b : List UInt8) : (a == b) = (b == a) := by rw [Bool.eq_iff_iff, beq_iff_eq, beq_iff_eq]; exact eq_comm
theorem alike_comm (x y : Val) : alikeV x y = alikeV y x := by
  unfold alikeV
  rw [bool_comm x.vb, list_comm x.vs.toList, int_comm x.vo]
theorem alike_self (x : Val) : alikeV x x = true := by unfold alikeV; simp
theorem strict_comm (x y : Val) : strictV x y = strictV y x := by
  unfold strictV
  rw [int_comm x.vk, alike_comm x, oeq_comm x.vn]
theorem sameV_comm (x y : Nat) : sameV x y = sameV y x := by
  unfold sameV
  rw [Bool.and_comm (fnan x), oeq_comm x, bool_comm (fneg x)]
theorem same_comm (x y : Val) : sameW x y = sameW y x := by
  unfold sameW
  rw [int_comm x.vk, alike_comm x, sameV_comm x.vn]
theorem same_self (x : Val) : sameW x x = true := by
  unfold sameW sameV
  rw [alike_self, oeq_self]
  cases fnan x.vn <;> simp
theorem strict_self (x : Val) : strictV x x = !fnan x.vn := by
  unfold strictV
  rw [alike_self, oeq_self]
  simp
theorem may_nan {x : Val} (h : mayB x = true) : strictV x x = !(x.vk == 3 && fnan x.vn) := by
  rw [strict_self]
  rcases may_cases h with rfl | rfl | ⟨b, rfl⟩ | ⟨n, _, rfl⟩ | ⟨s, _, rfl⟩ | ⟨o, _, rfl⟩
  · rfl
  · rfl
  · rfl
  · simp [valF]
  · rfl
  · rfl

end Go.Proofs.Ytlkgijinckhkkaa
