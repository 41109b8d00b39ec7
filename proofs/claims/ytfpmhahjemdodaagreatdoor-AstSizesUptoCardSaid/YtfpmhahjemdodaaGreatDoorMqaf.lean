/-
  Contracts of IsNaN and IsInf, and of Parts of both. Contracts of Parts of both. Doubles of whole numbers: what is lost below the highest 64 bits counts as one bit; a double scaled. Contracts of math.Inf and math.Ldexp, for doubles that stand for whole numbers. Contract of Float of the program. Contracts of math.Frexp and math.Ldexp, for finite floats above 0. Contracts of math.Ldexp (finite floats above 0, where the answer is a float) and of math.Mod. Contract of Near of the reference (at the power 0): of few bits, of none, of too many. Contract of Near of the reference (at the power 0): of many bits. Float of the reference. Less, Equal and Same of numbers, of the program and of the reference; NaN as it is told. What each Kind of node may have, as the program's table of tests says it. No program in it. The program's iterator over a tree's nodes.
-/
import Derived.Laws.FloatArith
import Derived.Laws.Externs
import Derived.Deep.RegionWith
import Ieee.Arith
import GoSem.Core.Float
import GoSem.Core.Utf8
import Derived.WalkKit
import Derived.WalkSpells
import Derived.WalkLawsBesides
import Derived.Deep.QuietTactic
import Derived.BigQuiet
import Derived.Lib.Hide
import Derived.Deep.OwnRows
import Derived.Laws.CopyOwn
import Derived.Deep.AppendLies
import Derived.Lib.BitFns
import Derived.Lib.Strings
import Derived.Laws.BitsAllLaws
import Derived.Lib.LaidTab
import Derived.Lib.ItoaNum
import Derived.Deep.DeepCutAuto
import Derived.ProofKit
import Derived.OpenShut
import Derived.SizedLaws
import Derived.Laws.BytesString
import Derived.Laws.Cells
import Derived.BigRegion
import Derived.Test.YtfpmhahjemdodaaGreatDoorProg
import Derived.Test.YtfpmhahjemdodaaGreatDoorRows
import Derived.Test.YtfpmhahjemdodaaGreatDoorShelf
import Derived.Test.YtfpmhahjemdodaaGreatDoorMqae
import Derived.Test.YtfpmhahjemdodaaGreatDoorMqaa
import Derived.Test.YtfpmhahjemdodaaGreatDoorJ7
namespace Go.Proofs.YtfpmhahjemdodaaGreatDoor
open Go.RowKit
/-- Is a word a NaN's? An infinity's? -/
def fnan (x : Nat) : Bool := decide (9218868437227405312 < rung x)
def finf (x : Nat) : Bool := decide (rung x = 9218868437227405312)
theorem ord_self (x : Nat) : (FloatKind.f64.format.order x x != some .eq) = fnan x := by
  unfold fnan
  show (Ieee.double.order x x != some .eq) = _
  by_cases h : 9218868437227405312 < rung x
  · rw [order_nan (.inl h), decide_eq_true h]; rfl
  · rw [order_eq (by omega) (by omega), decide_eq_false h]
    have : compare (frank x) (frank x) = .eq := by simp [compare, compareOfLessAndEq]
    rw [this]; rfl
theorem isNaN_any (x : Nat) (w : World) : Calls Tryz.prog 142 #[.float .f64 x] w fun e w' => e = .returned (.bool (fnan x)) ∧ w = w' := by
  have h := ord_self x
  go_enter Tryz.func142, Tryz.ntmps142
  go_wp2
  go_ret
  exact ⟨by rw [← h]; rfl, rfl⟩
theorem f64bits_run (x : Nat) (w : World) : (callFunc 36 #[.float .f64 x]).run Tryz.prog w = .ok (.value (.int .u64 x)) w := by
  rw [run_callFunc_extern (e := Extern.MathFloatBits.float64bits) Tryz.func36 (by kernel_rfl) (by kernel_rfl) (by kernel_rfl) (by kernel_rfl)]
  rfl
end Go.Proofs.YtfpmhahjemdodaaGreatDoor
namespace Go.Proofs.YtfpmhahjemdodaaGreatDoor
open Go.RowKit
/-- A float's whole number and power, as its bits have them. -/
def fwhole (x : Nat) : Nat := if x / 4503599627370496 = 0 then x % 4503599627370496 else x % 4503599627370496 + 4503599627370496
def fpow (x : Nat) : Int := if x / 4503599627370496 = 0 then -1074 else ((x / 4503599627370496 : Nat) : Int) - 1075
def PartsP (x : Nat) (w : World) (e : Ending) (w' : World) : Prop :=
  ∃ k m A n c, fwhole x = 2 ^ (k + 1) * m + 2 ^ k ∧ e = .returned (.tuple #[.slice A n c, .int .i64 (fpow x + (k : Nat)), .int .i64 0]) ∧ (n = (wds (2 * m + 1)).length ∧ n ≤ c ∧ RW w' w'.heap.size A (wds (2 * m + 1))) ∧ Below w.heap.size w w'
theorem fwhole_pos {x : Nat} (h0 : 0 < x) : 0 < fwhole x ∧ fwhole x < 9007199254740992 := by
  unfold fwhole
  split <;> omega
end Go.Proofs.YtfpmhahjemdodaaGreatDoor
namespace Go.Proofs.YtfpmhahjemdodaaGreatDoor
end Go.Proofs.YtfpmhahjemdodaaGreatDoor
namespace Go.Proofs.YtfpmhahjemdodaaGreatDoor
open Go.RowKit
end Go.Proofs.YtfpmhahjemdodaaGreatDoor
namespace Go.Proofs.YtfpmhahjemdodaaGreatDoor
open Go.RowKit
end Go.Proofs.YtfpmhahjemdodaaGreatDoor
namespace Go.Proofs.YtfpmhahjemdodaaGreatDoor
open Go.RowKit
end Go.Proofs.YtfpmhahjemdodaaGreatDoor
namespace Go.Proofs.YtfpmhahjemdodaaGreatDoor
open Go.RowKit
end Go.Proofs.YtfpmhahjemdodaaGreatDoor
namespace Go.Proofs.YtfpmhahjemdodaaGreatDoor
open Go.RowKit
end Go.Proofs.YtfpmhahjemdodaaGreatDoor
namespace Go.Proofs.YtfpmhahjemdodaaGreatDoor
open Go.RowKit
end Go.Proofs.YtfpmhahjemdodaaGreatDoor
namespace Go.Proofs.YtfpmhahjemdodaaGreatDoor
open Go.RowKit
theorem sgn_wrap (x : Nat) (hx : x < 18446744073709551616) : decide (wrap64 (x : Int) < 0) = fneg x := by
  unfold fneg wrap64
  by_cases h : x < 9223372036854775808
  · rw [decide_eq_false (by omega), Nat.div_eq_of_lt h]; rfl
  · rw [decide_eq_true (by omega), show x / 9223372036854775808 = 1 by omega]; rfl
theorem sgnbit_any (x : Nat) (w : World) (hx : x < 18446744073709551616) : Calls Tryz.prog 143 #[.float .f64 x] w fun e w' => e = .returned (.bool (fneg x)) ∧ w = w' := by
  have h1 := f64bits_run x w
  have h2 := Lib.hid (sgn_wrap x hx)
  clear hx
  go_enter Tryz.func143, Tryz.ntmps143
  go_wp2
  go_ret
  exact ⟨by rw [← h2.out]; rfl, rfl⟩
end Go.Proofs.YtfpmhahjemdodaaGreatDoor
namespace Go.Proofs.YtfpmhahjemdodaaGreatDoor
abbrev TT := Tn → Bool
def kd (t : Tn) : Int := t.datum.k
def tIs (ks : List Int) : TT := fun t => ks.any fun k => kd t == k
def tOp (ops : List (List UInt8)) : TT := fun t => ops.any fun o => t.datum.op.toList == o
def tAcc (n : Int) : TT := fun t => kd t == 13 && (t.datum.st.toList.isEmpty && (t.kids.length : Int) == n + 1)
def tEither (s t : TT) : TT := fun x => s x || t x
def tBoth (s t : TT) : TT := fun x => s x && t x
def tNot (t : TT) : TT := fun x => !t x
def zipAll : List TT → List Tn → Bool
  | p :: ps, x :: xs => p x && zipAll ps xs
  | _, _ => true
def tRow (l : List TT) : TT := fun x => x.kids.length == l.length && zipAll l x.kids
def tEach (t : TT) : TT := fun x => x.kids.all t
def tFirst (s t : TT) : TT := fun x => match x.kids with
  | [] => false
  | y :: l => s y && l.all t
def tLast (s t : TT) : TT := fun x => match x.kids.getLast? with
  | none => false
  | some y => x.kids.dropLast.all s && t y
def tFree : TT := fun _ => true
def tFlag : TT := fun x => x.datum.fl
def tUnnamed : TT := fun x => x.datum.st.toList.isEmpty
def tText : TT := fun x => x.datum.st.size % 2 == 0
def tExpr : TT := fun x => !(tIs [8, 10, 11, 12] x) && (decide (1 ≤ kd x) && decide (kd x ≤ 24))
def tLeft : TT := fun x => tExpr x && decide (kd x ≤ 17)
def tStat : TT := fun x => !(tIs [45, 58, 61] x) && (decide (43 ≤ kd x) && decide (kd x ≤ 62))
mutual
/-- A statement without an open end, gone down along the last Kids. -/
def cloG : Tn → Bool
  | .mk d l => if l.length == 0 then true else if d.k == 48 && l.length == 2 then false else if d.k == 48 || d.k == 50 || d.k == 51 || d.k == 52 || d.k == 56 then cloL l else true
def cloL : List Tn → Bool
  | [] => true
  | [x] => cloG x
  | _ :: y :: l => cloL (y :: l)
end
def tClosed : TT := fun x => tStat x && cloG x
def tOneVar : TT := fun x => kd x == 44 && x.kids.length == 1
def tOneDef : TT := fun x => decide ((x.kids.filter fun y => kd y == 58 && y.datum.fl).length ≤ 1)
def tAmount : TT := fun x => !fnan x.datum.nm && !fneg x.datum.nm
section
variable (nmd rsv : ByteArray → Bool)
def tMember : TT := fun x => tText x && nmd x.datum.st
def tName : TT := fun x => tMember nmd x && !rsv x.datum.st
structure Shp where
  op : Option TT := none
  st : Option TT := none
  nm : Option TT := none
  fl : Option TT := none
  kd : Option TT := none
def shp : Nat → Shp
  | 2 => { st := some (tName nmd rsv) }
  | 4 => { fl := some tFree }
  | 5 => { nm := some tAmount }
  | 6 => { st := some tText }
  | 7 => { kd := some (tEach (tEither tExpr (tIs [8]))) }
  | 9 => { kd := some (tEach (tIs [10, 11, 12])) }
  | 10 => { st := some tText, kd := some (tRow [tExpr]) }
  | 11 => { st := some tText, kd := some (tRow [tAcc 0]) }
  | 12 => { st := some tText, kd := some (tRow [tAcc 1]) }
  | 13 => { st := some (tEither tUnnamed (tName nmd rsv)), kd := some (tLast (tIs [2]) (tIs [41])) }
  | 14 => { st := some (tMember nmd), kd := some (tRow [tExpr]) }
  | 15 => { kd := some (tRow [tExpr, tExpr]) }
  | 16 => { kd := some (tFirst tExpr tExpr) }
  | 17 => { kd := some (tFirst tExpr tExpr) }
  | 18 => { op := some (tOp [[100, 101, 108, 101, 116, 101], [118, 111, 105, 100], [116, 121, 112, 101, 111, 102], [43, 43], [45, 45], [43], [45], [126], [33]]), kd := some (tBoth (tRow [tExpr]) (tEither (tNot (tOp [[43, 43], [45, 45]])) (tRow [tLeft]))) }
  | 19 => { op := some (tOp [[43, 43], [45, 45]]), kd := some (tRow [tLeft]) }
  | 20 => { op := some (tOp [[42], [47], [37], [43], [45], [60, 60], [62, 62], [62, 62, 62], [60], [62], [60, 61], [62, 61], [105, 110, 115, 116, 97, 110, 99, 101, 111, 102], [105, 110], [61, 61], [33, 61], [61, 61, 61], [33, 61, 61], [38], [94], [124]]), kd := some (tRow [tExpr, tExpr]) }
  | 21 => { op := some (tOp [[38, 38], [124, 124]]), kd := some (tRow [tExpr, tExpr]) }
  | 22 => { kd := some (tRow [tExpr, tExpr, tExpr]) }
  | 23 => { op := some (tOp [[61], [42, 61], [47, 61], [37, 61], [43, 61], [45, 61], [60, 60, 61], [62, 62, 61], [62, 62, 62, 61], [38, 61], [94, 61], [124, 61]]), kd := some (tRow [tLeft, tExpr]) }
  | 24 => { kd := some (tRow [tExpr, tExpr]) }
  | 40 => { kd := some (tEach (tEither tStat (tIs [42]))) }
  | 41 => { kd := some (tEach (tEither tStat (tIs [42]))) }
  | 42 => { st := some (tName nmd rsv), kd := some (tLast (tIs [2]) (tIs [41])) }
  | 43 => { kd := some (tEach tStat) }
  | 44 => { kd := some (tFirst (tIs [45]) (tIs [45])) }
  | 45 => { st := some (tName nmd rsv), kd := some (tEither (tRow []) (tRow [tExpr])) }
  | 47 => { kd := some (tRow [tExpr]) }
  | 48 => { kd := some (tEither (tRow [tExpr, tStat]) (tRow [tExpr, tClosed, tStat])) }
  | 49 => { kd := some (tRow [tStat, tExpr]) }
  | 50 => { kd := some (tRow [tExpr, tStat]) }
  | 51 => { kd := some (tRow [tEither (tEither tExpr (tIs [46])) (tIs [44]), tEither tExpr (tIs [46]), tEither tExpr (tIs [46]), tStat]) }
  | 52 => { kd := some (tRow [tEither tLeft tOneVar, tExpr, tStat]) }
  | 53 => { st := some (tEither tUnnamed (tName nmd rsv)) }
  | 54 => { st := some (tEither tUnnamed (tName nmd rsv)) }
  | 55 => { kd := some (tEither (tRow []) (tRow [tExpr])) }
  | 56 => { st := some (tName nmd rsv), kd := some (tRow [tStat]) }
  | 57 => { kd := some (tBoth (tFirst tExpr (tIs [58])) tOneDef) }
  | 58 => { fl := some tFree, kd := some (tEither (tBoth tFlag (tEach tStat)) (tBoth (tNot tFlag) (tFirst tExpr tStat))) }
  | 59 => { kd := some (tRow [tExpr]) }
  | 60 => { kd := some (tBoth (tRow [tIs [43], tEither (tIs [61]) (tIs [46]), tEither (tIs [43]) (tIs [46])]) (tNot (tRow [tIs [43], tIs [46], tIs [46]]))) }
  | 61 => { st := some (tName nmd rsv), kd := some (tRow [tIs [43]]) }
  | _ => {}
/-- A test, or what holds where there is none. -/
def prt (o : Option TT) (t : Tn) (z : Bool) : Bool := match o with
  | none => z
  | some p => p t
def hld (s : Shp) (t : Tn) : Bool :=
  prt s.op t t.datum.op.toList.isEmpty && (prt s.st t t.datum.st.toList.isEmpty && (prt s.nm t (t.datum.nm == 0) && (prt s.fl t (!t.datum.fl) && prt s.kd t (t.kids.length == 0))))
end
end Go.Proofs.YtfpmhahjemdodaaGreatDoor
namespace Go.Proofs.YtfpmhahjemdodaaGreatDoor
open Go.RowKit Go.Shelf
attribute [local go_sem] Oper.semAt_some
attribute [local go_sem] stFl
theorem flat_idx : ∀ {L : List (List Tn)} {i j : Nat} {l : List Tn} {x : Tn}, L[i]? = some l → l[j]? = some x → L.flatten[(L.take i).flatten.length + j]? = some x
  | [], i, j, l, x, h, _ => by simp at h
  | a :: L, 0, j, l, x, h, hx => by
    obtain rfl : a = l := by simpa using h
    have hj := (List.getElem?_eq_some_iff.1 hx).1
    simp only [List.take_zero, List.flatten_nil, List.length_nil, Nat.zero_add, List.flatten_cons]
    rw [List.getElem?_append_left hj]
    exact hx
  | a :: L, i + 1, j, l, x, h, hx => by
    have := flat_idx (L := L) (i := i) (by simpa using h) hx
    simp only [List.take_succ_cons, List.flatten_cons, List.length_append]
    rw [List.getElem?_append_right (by omega), show a.length + (L.take i).flatten.length + j - a.length = (L.take i).flatten.length + j by omega]
    exact this
theorem all_idx {t : Tn} {k q : Nat} {x : Tn} (h : (Tr.lev t k).flatten[q]? = some x) : ∀ {D : Nat}, k < D → (Tr.all t D)[Tr.szs t k + q]? = some x
  | 0, hk => by omega
  | D + 1, hk => by
    have hq := (List.getElem?_eq_some_iff.1 h).1
    rw [Tr.all]
    by_cases he : k = D
    · subst he
      rw [List.getElem?_append_right (by rw [Tr.all_len]; omega), Tr.all_len, show Tr.szs t k + q - Tr.szs t k = q by omega]
      exact h
    · have := all_idx h (D := D) (by omega)
      have hl := (List.getElem?_eq_some_iff.1 this).1
      rw [List.getElem?_append_left hl]
      exact this
/-- The k-th item of the nodes of t. -/
def NodX (n : Nat) (t : Tn) (s k : Nat) (W : World) (v : Value) : Prop :=
  ∃ x sl q, (Tr.all t t.depth)[k]? = some x ∧ v = nodV x.datum sl ∧ s ≤ q ∧ AtS (blk n q) W x.kids sl
theorem nodX_keep {n s k : Nat} {t : Tn} {A B : World} {v : Value} (h : NodX n t s k A v) (hk : Kp n s A B) : NodX n t s k B v := by
  obtain ⟨x, sl, q, h1, h2, h3, h4⟩ := h
  exact ⟨x, sl, q, h1, h2, h3, h4.keep (fun b hb hl => hk.same b hl (hb.imp id fun e => by omega))⟩
/-- So many nodes have been told; where yield lies. -/
structure NB (S l : Nat) (J : Nat → World → Prop) (k : Nat) (w : World) : Prop where
  j : J k w
  y : w.heap[S]? = some (.cells #[.func (.yield l) #[] #[]] 28 (0, 0))
set_option maxRecDepth 100000 in
set_option maxHeartbeats 2000000 in
theorem nodes1_in (n : Nat) (t : Tn) (l Bn : Nat) (J Jx : Nat → World → Prop) (W : World) (cs : List Value) (hn : n ≤ W.heap.size)
    (hc : W.heap[Bn]? = some (.cells cs.toArray 25 (0, 0))) (ht : At (fun b => b < n) W t cs)
    (hJ : ∀ k A B, J k A → W.heap.size ≤ A.heap.size → Below W.heap.size A B → J k B) (hJx : ∀ k A B, Jx k A → W.heap.size ≤ A.heap.size → Below W.heap.size A B → Jx k B)
    (hY : ∀ k W1 v, k < (Tr.all t t.depth).length → J k W1 → W.heap.size ≤ W1.heap.size → NodX n t W.heap.size k W1 v → YieldAt Fence.wide 0 Tryz.prog l #[v] W1 fun e W' =>
      (e = .returned (.bool true) ∧ J (k + 1) W' ∧ Kp n W.heap.size W1 W') ∨ (e = .returned (.bool false) ∧ Jx k W' ∧ Kp n W.heap.size W1 W'))
    (h0 : J 0 W) (h24 : t.size ≤ 4398046511103) :
    CallsIn Fence.wide 0 Tryz.prog 34 #[.func (.yield l) #[] #[], .pointer (some ⟨Bn, 0, none⟩)] W fun e W' => (∃ v, e = .returned v) ∧ (J (Tr.all t t.depth).length W' ∨ ∃ k, k < (Tr.all t t.depth).length ∧ Jx k W') := by
  refine callsIn_of_wp_marks Tryz.func34 rfl trivial ?_ rfl
  simp only [Tryz.ntmps34, List.size_toArray, List.length_cons, List.length_nil, Nat.reduceAdd, Nat.reduceSub, Array.replicate_succ, Array.replicate_zero, List.push_toArray, List.append_toArray, List.nil_append, List.cons_append]
  obtain ⟨s, rfl, hS⟩ := at_parts ht
  obtain ⟨A6, c6, rfl, -, -⟩ := hS
  have CL := Lib.hid (fun W => levels_any t.datum (.slice A6 t.kids.length c6) W)
  unfold nodV celN at CL
  generalize Tr.datum t = d at *
  have hBl := cell_lt' hc
  obtain ⟨w1, hw1⟩ : ∃ w1, W.alloc (.cells #[.func (.yield l) #[] #[]] 28) = w1 := ⟨_, rfl⟩
  have z1 : w1.heap.size = W.heap.size + 1 := by rw [← hw1]; simp
  have b1 : Below W.heap.size W w1 := by rw [← hw1]; exact (Below.refl _ _).alloc (Nat.le_refl _) _
  have hc1 := (b1.block Bn hBl).trans hc
  have c0 : w1.cell? ⟨Bn, 0, none⟩ = some (.int .i64 d.k) := by simp [World.cell?, hc1, celN]
  have c1 : w1.cell? ⟨Bn, 1, none⟩ = some (.string d.op) := by simp [World.cell?, hc1, celN]
  have c2 : w1.cell? ⟨Bn, 2, none⟩ = some (.string d.st) := by simp [World.cell?, hc1, celN]
  have c3 : w1.cell? ⟨Bn, 3, none⟩ = some (.float .f64 d.nm) := by simp [World.cell?, hc1, celN]
  have c4 : w1.cell? ⟨Bn, 4, none⟩ = some (.bool d.fl) := by simp [World.cell?, hc1, celN]
  have c5 : w1.cell? ⟨Bn, 5, none⟩ = some (.slice A6 t.kids.length c6) := by simp [World.cell?, hc1, celN]
  have c6' : w1.cell? ⟨Bn, 6, none⟩ = some (.int .i64 d.ps) := by simp [World.cell?, hc1, celN]
  clear b1 z1 hc1
  subst hw1
  gi_wp2
  obtain ⟨w1, hw1⟩ : ∃ w1, W.alloc (.cells #[.func (.yield l) #[] #[]] 28) = w1 := ⟨_, rfl⟩
  rw [hw1]
  refine ⟨trivial, rfl, (callsIn_wide.2 (CL.out _)).mono ?_⟩
  rintro e w2 ⟨rfl, hq2⟩
  have hw2 := hq2.symm
  clear hq2 c0 c1 c2 c3 c4 c5 c6'
  have z1 : w1.heap.size = W.heap.size + 1 := by rw [← hw1]; simp
  have z2 : w2.heap.size = W.heap.size + 2 := by rw [← hw2]; simp [z1]
  have b1 : Below W.heap.size W w1 := by rw [← hw1]; exact (Below.refl _ _).alloc (Nat.le_refl _) _
  have b2 : Below (W.heap.size + 1) w1 w2 := by rw [← hw2, ← z1]; exact (Below.refl _ _).alloc (Nat.le_refl _) _
  have bw : Below W.heap.size W w2 := b1.trans (b2.mono (by omega))
  have hit := levels_itr (n := n) (Bn := w1.heap.size) (t := t) (w := w2) (by omega) (by rw [← hw2]; exact World.alloc_heap_new _ _) (At.keep (Same.below (bw.mono hn)) _ _ ht) h24
  have hI0 : NB W.heap.size l J (Tr.szs t 0) w2 := ⟨hJ _ _ _ h0 (Nat.le_refl _) bw, by rw [b2.block _ (by omega), ← hw1]; exact World.alloc_heap_new _ _⟩
  have hlen : (Tr.all t t.depth).length = Tr.szs t t.depth := Tr.all_len t _
  clear hw1 hw2 b1 b2 bw CL ht hc h0
  rw [z1] at hit
  rw [z1]
  clear z1
  gi_wp2
  refine wp_range (gf := 22) (lb := #[.pointer (some ⟨W.heap.size + 1, 0, none⟩)]) rfl (enters_of Tryz.func22 (by kernel_rfl) rfl) hit (Below.refl _ _) (by omega) (fun k A B v h hk => levX_keep h hk)
    (fun k => NB W.heap.size l J (Tr.szs t k)) (fun c _ W' => c = .ret ∧ ∃ k, k < (Tr.all t t.depth).length ∧ Jx k W')
    (fun k A B h hs hb => ⟨hJ _ _ _ h.j (by omega) (hb.mono (by omega)), (hb.block _ (by omega)).trans h.y⟩) (fun c k A B h hs hb => ⟨h.1, by obtain ⟨q, h1, h2⟩ := h.2; exact ⟨q, h1, hJx _ _ _ h2 (by omega) (hb.mono (by omega))⟩⟩) hI0
    (fun v => { tmps := #[.func (.yield l) #[] #[], .pointer (some ⟨Bn, 0, none⟩), .pointer (some ⟨W.heap.size, 0, none⟩), v, undef, undef, undef, undef, .agg #[.int .i64 d.k, .string d.op, .string d.st, .float .f64 d.nm, .bool d.fl, .slice A6 t.kids.length c6, .int .i64 d.ps],
      .func (.func 22) #[] #[.pointer (some ⟨W.heap.size + 1, 0, none⟩)], v, undef, undef, undef, undef, undef, undef, undef, undef, undef, undef, undef, undef, undef, undef, undef, undef, undef, undef], defers := [] }) ?assign ?body ?done ?stop
  case assign =>
    intro l v W K hK
    gi_wp2
    exact hK
  case body =>
    rintro l1 k v W1 hk hI hsz ⟨g, cap, cur, q, rfl, h2, h3, h4, h5, h6⟩
    obtain ⟨S, hS⟩ : ∃ S, W.heap.size = S := ⟨_, rfl⟩
    obtain ⟨S2, hS2⟩ : ∃ S, w2.heap.size = S := ⟨_, rfl⟩
    rw [hS2] at hsz h2 h5 ⊢
    rw [hS] at hI hJ hJx hY hn
    rw [hS]
    rw [hS, hS2] at z2
    clear hit hI0 hS hS2 hJx
    have hI' : NB S l J (Tr.szs t k + ((Tr.lev t k).take 0).flatten.length) W1 := by simpa using hI
    gi_wp2
    gi_loopw [13] (fun i wr => ∃ i0 : Nat, i = .int .i64 i0 ∧ i0 ≤ (Tr.lev t k).length ∧ NB S l J (Tr.szs t k + ((Tr.lev t k).take i0).flatten.length) wr ∧ Kp n S2 W1 wr) (fun i _ => (Tr.lev t k).length - (intOf i).toNat)
    case atStart => exact ⟨0, rfl, Nat.zero_le _, hI', Kp.refl _ _ _⟩
    case round =>
      obtain ⟨i0, rfl, hi0, hN, hK⟩ := hrel
      clear hI hI'
      by_cases hi : i0 < (Tr.lev t k).length
      · obtain ⟨li, hli⟩ : ∃ li, (Tr.lev t k)[i0]? = some li := ⟨_, List.getElem?_eq_getElem hi⟩
        obtain ⟨si, hs1, ⟨A, c, rfl, hmx, hnn⟩⟩ := h6.2 i0 li hli
        obtain ⟨b, o, rfl, -, -⟩ := hnn (Tr.lev_full t k li (List.mem_of_getElem? hli))
        have hcell : wr.cell? ⟨g, i0, none⟩ = some (.slice (some ⟨b, o, none⟩) li.length c) := by
          have hs2 := hs1
          rw [List.getElem?_take_of_lt hi] at hs2
          exact (cell_of_row wr g i0 _ _ _ ((hK.same g (cell_lt' h3) (.inr (by omega))).trans h3)).trans (by simpa using hs2)
        have hwi := wrap_succ (j := i0) (by unfold maxLen at h4 ⊢; omega)
        have hft := Lib.hid (flat_take hli)
        have hN' : NB S l J (Tr.szs t k + ((Tr.lev t k).take i0).flatten.length + 0) wr := hN
        gi_wp2
        gi_loopw [19] (fun j w4 => ∃ j0 : Nat, j = .int .i64 j0 ∧ j0 ≤ li.length ∧ NB S l J (Tr.szs t k + ((Tr.lev t k).take i0).flatten.length + j0) w4 ∧ Kp n S2 W1 w4) (fun j _ => li.length - (intOf j).toNat)
        case atStart => exact ⟨0, rfl, Nat.zero_le _, hN', hK⟩
        case round =>
          clear hN hN' hK hcell
          obtain ⟨j0, rfl, hj0, hN, hK⟩ := hrel
          by_cases hj : j0 < li.length
          · obtain ⟨x, hx⟩ : ∃ x, li[j0]? = some x := ⟨_, List.getElem?_eq_getElem hj⟩
            have hsm : Same (blk n q) W1 wr := fun b hb hl => hK.same b hl (hb.imp id fun e => by omega)
            obtain ⟨si, hs2, hs3⟩ := (h6.keep hsm).2 i0 li hli
            obtain rfl := Option.some.inj (hs1.symm.trans hs2)
            obtain ⟨b', o', s6, e1, -, -, hr, hk6⟩ := hs3.nth hx
            have hk7 := hk6
            obtain ⟨A6', c6', rfl, hm6, -⟩ := hk7
            cases e1
            clear hs2 hs3
            have k0 : wr.cell? ⟨b, o + j0 * 7, none⟩ = some (.int .i64 x.datum.k) := hr 0 _ rfl
            have k1 := hr 1 _ rfl
            have k2 := hr 2 _ rfl
            have k3 := hr 3 _ rfl
            have k4 := hr 4 _ rfl
            have k5 := hr 5 _ rfl
            have k6 := hr 6 _ rfl
            clear hr
            have hidx := all_idx (flat_idx hli hx) hk
            rw [← Nat.add_assoc] at hidx
            have hNj := Lib.hid hN
            have hSS : S ≤ wr.heap.size := by have := hK.size; omega
            have ba : ∀ X, Below wr.heap.size wr (wr.alloc X) := fun X => (Below.refl _ _).alloc (Nat.le_refl _) _
            obtain ⟨w4, hw4⟩ : ∃ w4, wr.alloc (.cells #[.int .i64 x.datum.k, .string x.datum.op, .string x.datum.st, .float .f64 x.datum.nm, .bool x.datum.fl, .slice A6' x.kids.length c6', .int .i64 x.datum.ps] 25) = w4 := ⟨_, rfl⟩
            have bw4 : Below wr.heap.size wr w4 := by rw [← hw4]; exact ba _
            obtain ⟨fn, tmps, assign, body, hy, hR⟩ := hY _ w4 (nodV x.datum (.slice A6' x.kids.length c6')) (List.getElem?_eq_some_iff.1 hidx).1 (hJ _ _ _ hN.j hSS (bw4.mono hSS)) (by have := bw4.size; omega) ⟨x, _, q, hidx, rfl, by omega, hk6.keep (fun b _ hl => bw4.block b hl)⟩
            have hyc : w4.cell? ⟨S, 0, none⟩ = some (.func (.yield l) #[] #[]) := cell_of_row _ _ 0 _ _ _ ((bw4.block S (cell_lt' hN.y)).trans hN.y)
            have hy0 : wr.cell? ⟨S, 0, none⟩ = some (.func (.yield l) #[] #[]) := cell_of_row _ _ 0 _ _ _ hN.y
            have hy1 : S < wr.heap.size := cell_lt' hN.y
            have HY4 := Lib.hid ((bw4.block S (cell_lt' hN.y)).trans hN.y)
            have HK4 := Lib.hid (hK.trans (Kp.of_below bw4))
            unfold nodV at hy
            rw [← hw4] at hy hyc
            have HW4 := Lib.hid hw4
            clear hw4
            clear hN hK hk6 hsm ba
            gi_wp2
            rw [HW4.out]
            refine ⟨rfl, hR.mono ?_⟩
            clear hy hyc hR fn tmps assign body
            rintro e W3 (⟨rfl, hJ3, hk3⟩ | ⟨rfl, hJx3, hk3⟩)
            · have hwj := wrap_succ (j := j0) (by unfold maxLen at hmx ⊢; omega)
              have HN := Lib.hid (show NB S l J (Tr.szs t k + ((Tr.lev t k).take i0).flatten.length + (j0 + 1)) W3 from ⟨hJ3, (hk3.same S (cell_lt' HY4.out) (.inr (Nat.le_refl _))).trans HY4.out⟩)
              have HK := Lib.hid (HK4.out.trans (hk3.mono (Nat.le_refl _) (by omega)))
              clear hJ3 hk3
              gi_wp2
              refine ⟨⟨j0 + 1, congrArg _ hwj, hj, HN.out, HK.out⟩, ?_⟩
              rw [hwj]
              exact meas_dec hj
            · gi_wp2
              exact ⟨HK4.out.trans (hk3.mono (Nat.le_refl _) (by omega)), rfl, _, (List.getElem?_eq_some_iff.1 hidx).1, hJx3⟩
          · have hj1 : j0 = li.length := by omega
            have HN := Lib.hid (show NB S l J (Tr.szs t k + ((Tr.lev t k).take (i0 + 1)).flatten.length) wr by rw [hft.out, ← Nat.add_assoc, ← hj1]; exact hN)
            have HK := Lib.hid hK
            clear hN hK
            gi_wp2
            refine ⟨⟨i0 + 1, congrArg _ hwi, hi, HN.out, HK.out⟩, ?_⟩
            rw [hwi]
            exact meas_dec hi
      · have hi1 : i0 = (Tr.lev t k).length := by omega
        gi_wp2
        refine ⟨hK, ?_⟩
        have h9 := hN
        rw [hi1, List.take_length] at h9
        exact h9
  case done =>
    rintro D W' hD hI hd
    gi_wp2
    refine ⟨by simp, .inl ⟨_, _, rfl, run_takeDeferred hd, ?_⟩⟩
    refine ⟨_, by simp [results, Tryz.results34, go_sem]; rfl, ⟨_, rfl⟩, .inl ?_⟩
    rw [hlen]
    exact hJ _ _ _ hI.j (by have := cell_lt' hd; omega) (below_put _ _ (by omega))
  case stop =>
    rintro D c k W' hD hk ⟨rfl, q, hq, hX⟩ hd
    gi_wp2
    refine ⟨by simp, .inl ⟨_, _, rfl, run_takeDeferred hd, ?_⟩⟩
    exact ⟨_, by simp [results, Tryz.results34, go_sem]; rfl, ⟨_, rfl⟩, .inr ⟨q, hq, hJx _ _ _ hX (by have := cell_lt' hd; omega) (below_put _ _ (by omega))⟩⟩
end Go.Proofs.YtfpmhahjemdodaaGreatDoor
