/-
  The printer's room and write, where there is room. A new printer. Levels of the law's own nodes. Contracts of timesPlus of the program and of small of the reference. Contract of Parse of the program. Contract of Parse of the reference. Contract of strings.TrimLeft of noughts. Contract of Text of the program. Contract of Text of the reference. Contracts of Text and Parse of both, whatever the radix. Decimals as floats: the float nearest to N times 10^e, a plain function of two whole numbers; what is far off, what is shifted, what is cut off counts only by being there. No program in it. Decimals at the beginning of a text of bytes: their digits, their exponent, what stands behind them, and the float that they tell. No program in it. What a text of bytes is as a number: hexadecimals, literals, numbers, numbers at a beginning; and that bytes of no number may be told otherwise. No program in it.
-/
import Derived.Test.YtfpmhahjemdodaaGreatDoorMqat
import Derived.Test.YtfpmhahjemdodaaGreatDoorMqar
import Derived.Deep.RegionHeld3
import Derived.Laws.Closers25b
import Derived.ProofKit
import Derived.OpenShut
import Derived.SizedLaws
import Derived.Laws.BytesString
import Derived.Laws.Cells
import Derived.Deep.RegionWith
import Derived.BigRegion
import GoSem.Core.Utf8
import Derived.WalkKit
import Derived.WalkSpells
import Derived.WalkLawsBesides
import Derived.Deep.QuietTactic
import Derived.BigQuiet
import Derived.Lib.Hide
import Derived.Deep.OwnRows
import Derived.Laws.CopyOwn
import Derived.Deep.AppendLies
import Derived.Lib.BitFns
import Derived.Lib.Strings
import Derived.Laws.BitsAllLaws
import Derived.Lib.LaidTab
import Derived.Test.YtfpmhahjemdodaaGreatDoorProg
import Derived.Test.YtfpmhahjemdodaaGreatDoorRows
import Derived.Test.YtfpmhahjemdodaaGreatDoorShelf
import Derived.Test.YtfpmhahjemdodaaGreatDoorMqae
import Ieee.Arith
import GoSem.Core.Float
import Derived.Test.YtfpmhahjemdodaaGreatDoorBA
namespace Go.Proofs.YtfpmhahjemdodaaGreatDoor
open Go.RowKit Go.Shelf
attribute [local go_sem] stFl hmf
theorem Kb.refl (B g : Nat) (W : World) : Kb B g W W := ⟨rfl, rfl, rfl, Nat.le_refl _, fun _ _ _ => rfl, Lib.OthersKept.refl _ _ _⟩
theorem Kb.trans {B g : Nat} {a b c : World} (h : Kb B g a b) (k : Kb B g b c) : Kb B g a c :=
  ⟨k.os.trans h.os, k.tape.trans h.tape, k.output.trans h.output, Nat.le_trans h.size k.size, fun j h1 h2 => (k.block j h1 h2).trans (h.block j h1 h2), h.oth.trans k.oth⟩
theorem Pr.set {B g : Nat} {bs : List Value} {lng wo : Bool} {ks : Value} {W : World} (h : Pr B g bs lng wo ks W) (l' w' : Bool) (k : Nat) (hk : (k = 2 ∧ w' = wo) ∨ (k = 3 ∧ l' = lng)) :
    Pr B g bs l' w' ks (W.setCell ⟨g, k, none⟩ (.bool (if k = 2 then l' else w'))) ∧ Kb B g W (W.setCell ⟨g, k, none⟩ (.bool (if k = 2 then l' else w'))) := by
  obtain ⟨hgB, hBw, p, v, hp, hg, hown⟩ := h
  refine ⟨⟨hgB, by simp [World.setCell]; exact hBw, p, v, hp, ?_, ?_⟩, ⟨rfl, rfl, rfl, by simp [World.setCell], fun j _ hj => Below.heap_setCell _ _ _ _ hj, oth_set _ _ _ _⟩⟩
  · rcases hk with ⟨rfl, rfl⟩ | ⟨rfl, rfl⟩
    · exact heap_setCell_same W g 2 _ 51 _ hg
    · exact heap_setCell_same W g 3 _ 51 _ hg
  · refine hown.kept (row := some g) ⟨rfl, rfl, rfl, by simp [World.setCell], fun j _ hj => Below.heap_setCell _ _ _ _ (fun e => hj (by simp [e]))⟩ ?_
    exact Or.inr (fun e => by have := (hown.lt g e).1; omega)
theorem Pr.cells {B g : Nat} {bs : List Value} {lng wo : Bool} {ks : Value} {W : World} (h : Pr B g bs lng wo ks W) : (∃ A c, W.cell? ⟨g, 1, none⟩ = some (.slice A bs.length c)) ∧ W.cell? ⟨g, 2, none⟩ = some (.bool lng) ∧ W.frozen? ⟨g, 2, none⟩ = false ∧ W.cell? ⟨g, 3, none⟩ = some (.bool wo) ∧ W.frozen? ⟨g, 3, none⟩ = false ∧ W.cell? ⟨g, 4, none⟩ = some ks := by
  obtain ⟨hgB, hBw, p, v, hp, hg, hown⟩ := h
  refine ⟨?_, (cell_of_row W g 2 _ _ _ hg).trans rfl, frozen_of_row W g 2 _ _ hg, (cell_of_row W g 3 _ _ _ hg).trans rfl, frozen_of_row W g 3 _ _ hg, (cell_of_row W g 4 _ _ _ hg).trans rfl⟩
  rcases hown.2 with ⟨hv, h0⟩ | ⟨b, cap, cur, hv, _⟩
  · exact ⟨none, 0, by rw [cell_of_row W g 1 _ _ _ hg, hv, h0]; rfl⟩
  · exact ⟨some ⟨b, 0, none⟩, cap, by rw [cell_of_row W g 1 _ _ _ hg, hv]; rfl⟩
set_option maxRecDepth 100000 in
set_option maxHeartbeats 2000000 in
theorem room_p (B g : Nat) (bs : List Value) (wo : Bool) (ks : Value) (n : Nat) (w : World) (h : Pr B g bs false wo ks w) (hn : bs.length + n ≤ 2097152) :
    Calls Tryz.prog 156 #[.pointer (some ⟨g, 0, none⟩), .int .i64 (n : Nat)] w fun e w' => e = .returned (.bool true) ∧ Pr B g bs false wo ks w' ∧ Kb B g w w' := by
  obtain ⟨⟨A, c, c1⟩, c2, f2, -, -, -⟩ := h.cells
  have HS := Lib.hid (h.set false wo 2 (.inl ⟨rfl, rfl⟩))
  have C := Lib.hid (blen_p g bs.length c A w c1)
  have hw : wrap64 (2097152 - (bs.length : Int)) = 2097152 - (bs.length : Int) := by unfold wrap64; omega
  have hgt : ¬ 2097152 - (bs.length : Int) < (n : Int) := by omega
  clear h c1
  go_enter Tryz.func156, Tryz.ntmps156
  go_wp2_with fail
  refine C.out.mono ?_
  rintro e w' ⟨rfl, rfl⟩
  clear C
  go_wp2
  have hd : decide (2097152 - (bs.length : Int) < (n : Int)) = false := decide_eq_false (by omega)
  go_ret
  refine ⟨?_, ?_⟩
  · show Ending.returned (.bool !decide (2097152 - (bs.length : Int) < (n : Int))) = _
    rw [hd]
    rfl
  · rw [hd]
    exact HS.out
set_option maxRecDepth 100000 in
set_option maxHeartbeats 2000000 in
theorem write_p (B g : Nat) (bs : List Value) (wo : Bool) (ks : Value) (s : ByteArray) (w : World) (h : Pr B g bs false wo ks w) (hn : bs.length + s.size ≤ 2097152) :
    Calls Tryz.prog 108 #[.pointer (some ⟨g, 0, none⟩), .string s] w fun e w' => e = .returned (.tuple #[]) ∧ Pr B g (bs ++ Lib.strCells s) false wo ks w' ∧ Kb B g w w' := by
  have C1 := Lib.hid (room_p B g bs wo ks s.size w h hn)
  have C2 := Lib.hid (fun W (h : Pr B g bs false wo ks W) => bwrite_p B g bs false wo ks s W h (by omega))
  clear h hn
  go_enter Tryz.func108, Tryz.ntmps108
  go_wp2_with fail
  refine C1.out.mono ?_
  rintro e w2 ⟨rfl, h2, k2⟩
  have H2 := Lib.hid h2
  have K2 := Lib.hid k2
  clear C1 h2 k2
  go_wp2_with fail
  refine (C2.out _ H2.out).mono ?_
  rintro e w3 ⟨rfl, h3, k3⟩
  have H3 := Lib.hid h3
  have K3 := Lib.hid (K2.out.trans k3)
  clear C2 h3 k3 H2 K2
  go_wp2
  go_end0
  exact ⟨rfl, H3.out, K3.out⟩
end Go.Proofs.YtfpmhahjemdodaaGreatDoor
namespace Go.Proofs.YtfpmhahjemdodaaGreatDoor
open Go.RowKit Go.Shelf
attribute [local go_sem] stFl hmf
theorem made_kinds : madeCells Value.nilFunc.cells (Int.toNat 63 * Tryz.t44.size) = Array.replicate 63 .nilFunc := by kernel_rfl
theorem mk_kinds (w : World) : (Instr.makeSlice 49 (.int .i64 63) (.int .i64 63)).run Tryz.prog w = .ok (.slice (some ⟨w.heap.size, 0, none⟩) 63 63) (w.alloc (.cells (Array.replicate 63 .nilFunc) 44)) := by
  have h := run_makeSlice (P := Tryz.prog) w 49 44 Tryz.t44 .nilFunc Tryz.underlying49 (by kernel_rfl) (by kernel_rfl) .i64 .i64 63 63 (by omega) (by omega) (by decide) (by decide) (by omega)
  rw [← made_kinds]
  exact h
/-- A new printer: its block and its table. -/
structure NewP (w W : World) (g : Nat) (f : List (Nat × Value)) : Prop where
  k : W.heap[g]? = some (.cells #[.pointer none, .slice none 0 0, .bool false, .bool false, .slice (some ⟨g + 1, 0, none⟩) 63 63] 51 (0, 0))
  t : ∃ cs, cs.size = 63 ∧ W.heap[g + 1]? = some (.cells cs 44 (0, 0)) ∧ ∀ e ∈ f, cs[e.1]? = some e.2
  z : g + 2 ≤ W.heap.size
  b : Below g w W
theorem NewP.tb {w W : World} {g : Nat} {f : List (Nat × Value)} (h : NewP w W g f) : TB (g + 1) W W g (g + 1) f :=
  ⟨(cell_of_row W g 4 _ _ _ h.k).trans rfl, h.t, by omega, Below.refl _ _, Nat.le_refl _⟩
theorem NewP.on {w W W' : World} {g : Nat} {f f' : List (Nat × Value)} (h : NewP w W g f) (k : TB (g + 1) W W' g (g + 1) f') : NewP w W' g f' :=
  ⟨(k.b.block g (by omega)).trans h.k, k.t, Nat.le_trans h.z k.b.size, h.b.trans (k.b.mono (by omega))⟩
theorem NewP.new (w : World) : NewP w ((w.alloc (.cells #[.pointer none, .slice none 0 0, .bool false, .bool false, .slice (some ⟨w.heap.size + 1, 0, none⟩) 63 63] 51)).alloc (.cells (Array.replicate 63 .nilFunc) 44)) w.heap.size [] := by
  obtain ⟨W1, hW1⟩ : ∃ W1, w.alloc (.cells #[.pointer none, .slice none 0 0, .bool false, .bool false, .slice (some ⟨w.heap.size + 1, 0, none⟩) 63 63] 51) = W1 := ⟨_, rfl⟩
  have s1 : W1.heap.size = w.heap.size + 1 := by rw [← hW1]; simp
  have g1 : W1.heap[w.heap.size]? = some (.cells #[.pointer none, .slice none 0 0, .bool false, .bool false, .slice (some ⟨w.heap.size + 1, 0, none⟩) 63 63] 51 (0, 0)) := by rw [← hW1]; exact heap_alloc_last w _
  have b1' : Below w.heap.size w W1 := by rw [← hW1]; exact b1 _
  rw [hW1]
  obtain ⟨W2, hW2⟩ : ∃ W2, W1.alloc (.cells (Array.replicate 63 .nilFunc) 44) = W2 := ⟨_, rfl⟩
  have s2 : W2.heap.size = w.heap.size + 2 := by rw [← hW2]; simp [s1]
  have g2 : W2.heap[w.heap.size + 1]? = some (.cells (Array.replicate 63 .nilFunc) 44 (0, 0)) := by rw [← hW2, ← s1]; exact heap_alloc_last W1 _
  have b2' : Below W1.heap.size W1 W2 := by rw [← hW2]; exact b1 _
  rw [hW2]
  exact ⟨(b2'.block w.heap.size (by omega)).trans g1, ⟨_, by simp, g2, by simp⟩, by omega, b1'.trans (b2'.mono (by omega))⟩
set_option maxRecDepth 100000 in
set_option maxHeartbeats 2000000 in
theorem newPrinter_any (w : World) : Calls Tryz.prog 17 #[] w fun e w' => e = .returned (.pointer (some ⟨w.heap.size, 0, none⟩)) ∧ NewP w w' w.heap.size [(47, pF w.heap.size 66), (40, pF w.heap.size 60), (17, pF w.heap.size 53), (5, pF w.heap.size 41), (2, pF w.heap.size 38)] := by
  have hm := mk_kinds
  have N0 := Lib.hid (NewP.new w)
  have C1 := Lib.hid (fun W (h : NewP w W w.heap.size []) => findE_any (w.heap.size + 1) w.heap.size (w.heap.size + 1) W W h.tb)
  have C2 := Lib.hid (fun W (h : NewP w W w.heap.size [(17, pF w.heap.size 53), (5, pF w.heap.size 41), (2, pF w.heap.size 38)]) => findS_any (w.heap.size + 1) w.heap.size (w.heap.size + 1) W W h.tb)
  go_enter Tryz.func17, Tryz.ntmps17
  go_wp2_with fail
  refine (C1.out _ N0.out).mono ?_
  rintro e w2 ⟨rfl, k2⟩
  have N2 := Lib.hid (N0.out.on k2)
  clear C1 k2 N0
  go_wp2_with fail
  refine (C2.out _ N2.out).mono ?_
  rintro e w3 ⟨rfl, k3⟩
  have N3 := Lib.hid (N2.out.on k3)
  clear C2 k3 N2
  go_wp2
  go_ret
  exact ⟨rfl, N3.out⟩
end Go.Proofs.YtfpmhahjemdodaaGreatDoor
namespace Go.Proofs.YtfpmhahjemdodaaGreatDoor
open Go.RowKit Go.Shelf
attribute [local go_sem] stFl hmf
set_option maxRecDepth 100000 in
set_option maxHeartbeats 1000000 in
theorem level_17 (op st : ByteArray) (nm : Nat) (fl : Bool) (s : Value) (ps : Int) (w : World) : Calls Tryz.prog 124 #[.agg #[.int .i64 17, .string op, .string st, .float .f64 nm, .bool fl, s, .int .i64 ps]] w fun e w' => e = .returned (.int .i64 15) ∧ Below w.heap.size w w' := by
  have HB := Lib.hid (fun X : Obj => b1 (w := w) X)
  go_enter Tryz.func124, Tryz.ntmps124
  go_wp2
  go_ret
  exact ⟨rfl, HB.out _⟩
set_option maxRecDepth 100000 in
set_option maxHeartbeats 1000000 in
theorem level_2 (op st : ByteArray) (nm : Nat) (fl : Bool) (s : Value) (ps : Int) (w : World) : Calls Tryz.prog 124 #[.agg #[.int .i64 2, .string op, .string st, .float .f64 nm, .bool fl, s, .int .i64 ps]] w fun e w' => e = .returned (.int .i64 17) ∧ Below w.heap.size w w' := by
  have HB := Lib.hid (fun X : Obj => b1 (w := w) X)
  go_enter Tryz.func124, Tryz.ntmps124
  go_wp2
  go_ret
  exact ⟨rfl, HB.out _⟩
set_option maxRecDepth 100000 in
set_option maxHeartbeats 1000000 in
theorem level_5 (op st : ByteArray) (nm : Nat) (fl : Bool) (s : Value) (ps : Int) (w : World) : Calls Tryz.prog 124 #[.agg #[.int .i64 5, .string op, .string st, .float .f64 nm, .bool fl, s, .int .i64 ps]] w fun e w' => e = .returned (.int .i64 17) ∧ Below w.heap.size w w' := by
  have HB := Lib.hid (fun X : Obj => b1 (w := w) X)
  go_enter Tryz.func124, Tryz.ntmps124
  go_wp2
  go_ret
  exact ⟨rfl, HB.out _⟩
set_option maxRecDepth 100000 in
set_option maxHeartbeats 1000000 in
theorem reaches_17 (op st : ByteArray) (nm : Nat) (fl : Bool) (s : Value) (ps : Int) (w : World) : Calls Tryz.prog 168 #[.agg #[.int .i64 17, .string op, .string st, .float .f64 nm, .bool fl, s, .int .i64 ps], .int .i64 0] w fun e w' => e = .returned (.bool true) ∧ Below w.heap.size w w' := by
  have HB := Lib.hid (fun X : Obj => b1 (w := w) X)
  have C := Lib.hid (fun W => level_17 op st nm fl s ps W)
  go_enter Tryz.func168, Tryz.ntmps168
  go_wp2_with fail
  refine (C.out _).mono ?_
  rintro e w2 ⟨rfl, b2⟩
  have HB2 := Lib.hid ((HB.out _).trans (b2.mono (HB.out _).size))
  clear b2 C HB
  go_wp2
  go_ret
  exact ⟨rfl, HB2.out⟩
set_option maxRecDepth 100000 in
set_option maxHeartbeats 1000000 in
theorem reaches_2 (op st : ByteArray) (nm : Nat) (fl : Bool) (s : Value) (ps : Int) (w : World) : Calls Tryz.prog 168 #[.agg #[.int .i64 2, .string op, .string st, .float .f64 nm, .bool fl, s, .int .i64 ps], .int .i64 15] w fun e w' => e = .returned (.bool true) ∧ Below w.heap.size w w' := by
  have HB := Lib.hid (fun X : Obj => b1 (w := w) X)
  have C := Lib.hid (fun W => level_2 op st nm fl s ps W)
  go_enter Tryz.func168, Tryz.ntmps168
  go_wp2_with fail
  refine (C.out _).mono ?_
  rintro e w2 ⟨rfl, b2⟩
  have HB2 := Lib.hid ((HB.out _).trans (b2.mono (HB.out _).size))
  clear b2 C HB
  go_wp2
  go_ret
  exact ⟨rfl, HB2.out⟩
set_option maxRecDepth 100000 in
set_option maxHeartbeats 1000000 in
theorem reaches_5 (op st : ByteArray) (nm : Nat) (fl : Bool) (s : Value) (ps : Int) (w : World) : Calls Tryz.prog 168 #[.agg #[.int .i64 5, .string op, .string st, .float .f64 nm, .bool fl, s, .int .i64 ps], .int .i64 1] w fun e w' => e = .returned (.bool true) ∧ Below w.heap.size w w' := by
  have HB := Lib.hid (fun X : Obj => b1 (w := w) X)
  have C := Lib.hid (fun W => level_5 op st nm fl s ps W)
  go_enter Tryz.func168, Tryz.ntmps168
  go_wp2_with fail
  refine (C.out _).mono ?_
  rintro e w2 ⟨rfl, b2⟩
  have HB2 := Lib.hid ((HB.out _).trans (b2.mono (HB.out _).size))
  clear b2 C HB
  go_wp2
  go_ret
  exact ⟨rfl, HB2.out⟩
end Go.Proofs.YtfpmhahjemdodaaGreatDoor
namespace Go.Proofs.YtfpmhahjemdodaaGreatDoor
open Go.RowKit
theorem nrm_full {l : List Nat} (h : Ws l) (hv : l = [] ∨ 4294967296 ^ (l.length - 1) ≤ val l) : nrm l = l := by
  rcases hv with rfl | hv
  · rfl
  · have h1 := nrm_len l
    rcases Nat.lt_or_ge (nrm l).length l.length with h2 | h2
    · have h3 := val_lt h.nrm
      rw [val_nrm] at h3
      have h4 : 4294967296 ^ (nrm l).length ≤ 4294967296 ^ (l.length - 1) := Nat.pow_le_pow_right (by omega) (by omega)
      omega
    · have h3 := nrm_take l
      rw [List.take_of_length_le h2] at h3
      exact h3
/-- A list of words times x, and y, the first k words written. -/
structure TpT (a : List Nat) (x y k : Nat) (S : List Nat) (q : Nat) : Prop where
  len : S.length = a.length
  ws : Ws S
  far : ∀ j, k ≤ j → S.getD j 0 = a.getD j 0
  sum : val (S.take k) + 4294967296 ^ k * q = x * val (a.take k) + y
  low : q < 4294967296
def tpC (a : List Nat) (x k q : Nat) : Nat := q + a.getD k 0 * x
theorem tpC_lt {a : List Nat} {x k q : Nat} (ha : Ws a) (hx : x < 4294967296) (hq : q < 4294967296) : a.getD k 0 * x ≤ 18446744065119617025 ∧ tpC a x k q ≤ 18446744069414584320 := by
  have h1 := ha.getD k
  have h3 : a.getD k 0 * x ≤ 4294967295 * 4294967295 := Nat.mul_le_mul (by omega) (by omega)
  unfold tpC
  omega
theorem TpT.next {a : List Nat} {x y k : Nat} {S : List Nat} {q : Nat} (h : TpT a x y k S q) (ha : Ws a) (hx : x < 4294967296) (hk : k < a.length) :
    TpT a x y (k + 1) (S.set k (tpC a x k q % 4294967296)) (tpC a x k q / 4294967296) := by
  obtain ⟨h1, h2, h3, h4, h5⟩ := h
  have hc := (tpC_lt (k := k) ha hx h5).2
  refine ⟨by rw [List.length_set]; exact h1, h2.set (by omega), fun j hj => by rw [getD_set_ne (by omega)]; exact h3 j (by omega), ?_, by omega⟩
  rw [val_take_succ _ k (by rw [List.length_set]; omega), val_take_succ a k hk, getD_set_eq (by omega)]
  rw [take_congr (l := S.set k (tpC a x k q % 4294967296)) (m := S) k (by rw [List.length_set]; omega) (by omega) (fun j hj => getD_set_ne (by omega))]
  have e := step_words (4294967296 ^ k) (tpC a x k q) (val (S.take k)) (x * (val (a.take k) + 4294967296 ^ k * a.getD k 0) + y) (by
    have : tpC a x k q = q + a.getD k 0 * x := rfl
    rw [this]
    grind)
  rw [Nat.pow_succ]
  exact e
theorem TpT.fin {n x y q : Nat} {S : List Nat} (h : TpT (wds n) x y (wds n).length S q) (hx : 0 < x) : (if q = 0 then S else S ++ [q]) = wds (n * x + y) := by
  obtain ⟨h1, h2, h3, h4, h5⟩ := h
  rw [List.take_of_length_le (by omega), List.take_of_length_le (Nat.le_refl _), wds_val] at h4
  by_cases hq : q = 0
  · rw [if_pos hq]
    rw [hq, Nat.mul_zero, Nat.add_zero] at h4
    have hv : val S = n * x + y := by rw [h4, Nat.mul_comm]
    rw [← hv, ← nrm_wds h2]
    refine (nrm_full h2 ?_).symm
    rcases Nat.eq_zero_or_pos (wds n).length with h0 | h0
    · left; exact List.eq_nil_of_length_eq_zero (by omega)
    · right
      have h6 := val_ge (l := wds n) (by rw [wds_nrm]; intro e; rw [e] at h0; simp at h0)
      rw [wds_nrm, wds_val] at h6
      rw [h1, hv]
      have : n * 1 ≤ n * x := Nat.mul_le_mul_left _ hx
      omega
  · rw [if_neg hq]
    have hw : Ws (S ++ [q]) := h2.append (Ws.cons h5 Ws.nil)
    have hv : val (S ++ [q]) = n * x + y := by rw [val_snoc, h1, h4, Nat.mul_comm]
    rw [← hv, ← nrm_wds hw]
    refine (nrm_full hw (.inr ?_)).symm
    rw [val_snoc, List.length_append, List.length_singleton, Nat.add_sub_cancel]
    have : 4294967296 ^ S.length * 1 ≤ 4294967296 ^ S.length * q := Nat.mul_le_mul_left _ (by omega)
    omega
/-- Writing a word of a row of the call's own. -/
theorem OwnW.cell {B : Nat} {l : List Nat} {g n c : Nat} {w : World} (h : OwnW B l (.slice (some ⟨g, 0, none⟩) n c) w) (k : Nat) (hk : k < l.length) :
    w.cell? ⟨g, k, none⟩ = some (.int .u32 (l.getD k 0 : Nat)) ∧ w.frozen? ⟨g, k, none⟩ = false := by
  rcases h.2 with ⟨e, _⟩ | ⟨g', cap, cur, e, hB, hg, hcap, hmax, hcur, htk⟩
  · cases e
  · cases e
    refine ⟨?_, by simp [World.frozen?, hg]⟩
    have := World.ownsRow.cells (g := g) h rfl k (.int .u32 (l.getD k 0 : Nat)) (by rw [List.getElem?_map, getD_some hk]; rfl)
    by_cases hz : k = 0
    · subst hz; simpa [Addr.add] using this
    · simpa [Addr.add, hz] using this
theorem OwnW.set {B : Nat} {l : List Nat} {g n c : Nat} {w : World} (h : OwnW B l (.slice (some ⟨g, 0, none⟩) n c) w) (k u : Nat) :
    OwnW B (l.set k u) (.slice (some ⟨g, 0, none⟩) n c) (w.setCell ⟨g, k, none⟩ (.int .u32 (u : Nat))) := by
  rcases h.2 with ⟨e, _⟩ | ⟨g', cap, cur, e, hB, hg, hcap, hmax, hcur, htk⟩
  · cases e
  · cases e
    refine ⟨by rw [List.length_map, List.length_set, Nat.mul_one], .inr ⟨g, c, cur.set! k (.int .u32 (u : Nat)), by rw [List.length_set], hB, ?_, by rw [List.length_set]; exact hcap, hmax, ?_, ?_⟩⟩
    · simp [World.setCell, Array.getElem?_modify, hg]
    · simpa using hcur
    · rw [List.map_set, ← htk]
      simp only [Array.set!_eq_setIfInBounds, Array.toList_setIfInBounds, List.length_set]
      rw [List.take_set]
/-- The state of the division by a word d in a row of its own: the words from i on are the quotient's, and r is the rest so far. -/
structure SmT (a : List Nat) (d i : Nat) (S : List Nat) (r : Nat) : Prop where
  len : S.length = a.length
  ws : Ws S
  sum : val (S.drop i) * d + r = val (a.drop i)
  low : r < d
theorem SmT.next {a : List Nat} {d i : Nat} {S : List Nat} {r : Nat} (h : SmT a d (i + 1) S r) (ha : Ws a) (hi : i < a.length) (hd : d < 4294967296) :
    (r * 4294967296 + a.getD i 0) / d < 4294967296 ∧ r * 4294967296 + a.getD i 0 < 18446744073709551616 ∧ SmT a d i (S.set i ((r * 4294967296 + a.getD i 0) / d)) ((r * 4294967296 + a.getD i 0) % d) := by
  obtain ⟨h1, h2, h4, h5⟩ := h
  have hx := ha.getD i
  have hd0 : 0 < d := by omega
  have hq : (r * 4294967296 + a.getD i 0) / d < 4294967296 := by
    rw [Nat.div_lt_iff_lt_mul hd0]
    have : (r + 1) * 4294967296 ≤ d * 4294967296 := Nat.mul_le_mul_right _ h5
    omega
  refine ⟨hq, by omega, by rw [List.length_set]; exact h1, h2.set hq, ?_, Nat.mod_lt _ hd0⟩
  rw [val_drop_cons _ i (by rw [List.length_set]; omega), getD_set_eq (by omega), val_drop_cons a i hi, List.drop_set, if_pos (by omega)]
  have e := Nat.mod_add_div (r * 4294967296 + a.getD i 0) d
  generalize (r * 4294967296 + a.getD i 0) / d = q at *
  generalize (r * 4294967296 + a.getD i 0) % d = z at *
  generalize val (S.drop (i + 1)) = V at *
  rw [← h4]
  grind
theorem SmT.fin {a : List Nat} {d : Nat} {S : List Nat} {r : Nat} (h : SmT a d 0 S r) : val S = val a / d ∧ r = val a % d := by
  obtain ⟨h1, h2, h4, h5⟩ := h
  rw [List.drop_zero, List.drop_zero] at h4
  have e1 : val a / d = val S := by
    rw [← h4, Nat.add_comm, Nat.add_mul_div_right _ _ (by omega), Nat.div_eq_of_lt h5, Nat.zero_add]
  have e2 := Nat.mod_add_div (val a) d
  rw [e1, Nat.mul_comm] at e2
  exact ⟨e1.symm, by omega⟩
end Go.Proofs.YtfpmhahjemdodaaGreatDoor
namespace Go.Proofs.YtfpmhahjemdodaaGreatDoor
open Go.RowKit
theorem OwnW.below {B : Nat} {l : List Nat} {v : Value} {w w' : World} (h : OwnW B l v w) (hb : Below w.heap.size w w') : OwnW B l v w' := by
  refine World.ownsRow.kept (row := none) h ⟨hb.os, hb.tape, hb.output, hb.size, fun k hk _ => hb.block k hk⟩ ?_
  cases v.ownBlock <;> simp
/-- The rest of a string from o on. -/
structure Rest (s : ByteArray) (o : Nat) (t : ByteArray) : Prop where
  le : o ≤ s.size
  size : t.size = s.size - o
  byte : ∀ i, i < t.size → btn t i = btn s (o + i)
theorem btn_extract (t : ByteArray) (a b i : Nat) (hi : i < b - a) (hb : b ≤ t.size) : btn (t.extract a b) i = btn t (a + i) := by
  have h1 : i < (t.extract a b).size := by rw [ByteArray.size_extract]; omega
  rw [← btn_eq _ i h1, ← btn_eq t (a + i) (by omega), ByteArray.getElem_extract]
theorem Rest.all (s : ByteArray) : Rest s 0 s := ⟨Nat.zero_le _, rfl, fun i _ => by rw [Nat.zero_add]⟩
theorem Rest.next {s t : ByteArray} {o m : Nat} (h : Rest s o t) (hm : m ≤ t.size) : Rest s (o + m) (t.extract m t.size) :=
  ⟨by have := h.le; have := h.size; omega, by rw [ByteArray.size_extract, h.size]; omega, fun i hi => by
    have h1 : i < t.size - m := by rw [ByteArray.size_extract] at hi; omega
    rw [btn_extract t m t.size i h1 (Nat.le_refl _), h.byte _ (by omega), Nat.add_assoc]⟩
end Go.Proofs.YtfpmhahjemdodaaGreatDoor
namespace Go.Proofs.YtfpmhahjemdodaaGreatDoor
open Go.RowKit
theorem alloc_below {w W : World} (o : Obj) (h : Below w.heap.size w W) : Below w.heap.size w (W.alloc o) := h.alloc h.size _
end Go.Proofs.YtfpmhahjemdodaaGreatDoor
namespace Go.Proofs.YtfpmhahjemdodaaGreatDoor
open Go.RowKit
end Go.Proofs.YtfpmhahjemdodaaGreatDoor
namespace Go.Proofs.YtfpmhahjemdodaaGreatDoor
open Go.RowKit
/-- How long a slice is. -/
def slLen : Value → Nat
  | .slice _ n _ => n
  | _ => 0
theorem Own8.len {B : Nat} {l : List Nat} {v : Value} {w : World} (h : Own8 B l v w) : slLen v = l.length := by
  rcases h.2 with ⟨rfl, h1⟩ | ⟨g, cap, cur, rfl, _⟩
  · rw [h1]; rfl
  · rfl
/-- The letters told when v is left. -/
structure TextT (r n c v k : Nat) (D : List Nat) : Prop where
  ds : Ds r D
  sum : dv r D + r ^ D.length * v = n
  len : D.length = c * k
  low : 2 ^ k * v ≤ n
/-- .. and when q is left of a part of c digits, j of which were told; v is left behind it. -/
structure TextU (r n c v j q N : Nat) (E : List Nat) : Prop where
  ds : Ds r E
  sum : dv r E + r ^ E.length * (q + r ^ (c - j) * v) = n
  len : E.length = N + j
  low : q < r ^ (c - j)
theorem TextT.part {r n c v k p : Nat} {D : List Nat} (h : TextT r n c v k D) (hp : p = r ^ c) (hp0 : 0 < p) : TextU r n c (v / p) 0 (v % p) D.length D := by
  refine ⟨h.ds, ?_, rfl, by rw [Nat.sub_zero, ← hp]; exact Nat.mod_lt _ hp0⟩
  rw [Nat.sub_zero, ← hp, Nat.mod_add_div]
  exact h.sum
theorem TextU.next {r n c v j q N : Nat} {E : List Nat} (h : TextU r n c v j q N E) (hr : 0 < r) (hj : j < c) : TextU r n c v (j + 1) (q / r) N (E ++ [q % r]) := by
  obtain ⟨h1, h2, h3, h4⟩ := h
  obtain ⟨i, hi⟩ : ∃ i, c - j = i + 1 := ⟨c - j - 1, by omega⟩
  rw [hi] at h2 h4
  have hi2 : c - (j + 1) = i := by omega
  refine ⟨h1.snoc (Nat.mod_lt _ hr), ?_, by rw [List.length_append, h3]; rfl, by rw [hi2, Nat.div_lt_iff_lt_mul hr, ← Nat.pow_succ]; exact h4⟩
  rw [dv_snoc, List.length_append, List.length_singleton, hi2, Nat.pow_succ, ← h2, Nat.pow_succ]
  have e := Nat.mod_add_div q r
  generalize q % r = z at *
  generalize q / r = x at *
  rw [← e]
  grind
theorem TextU.fin {r n c v q k : Nat} {D E : List Nat} {v0 p : Nat} (h : TextU r n c v c q D.length E) (hD : TextT r n c v0 k D) (hv : v = v0 / p) (hp : 2 ≤ p) : TextT r n c v (k + 1) E := by
  obtain ⟨h1, h2, h3, h4⟩ := h
  rw [Nat.sub_self, Nat.pow_zero] at h2 h4
  have hq : q = 0 := by omega
  rw [hq, Nat.zero_add, Nat.one_mul] at h2
  refine ⟨h1, h2, by rw [h3, hD.len, Nat.mul_succ], ?_⟩
  have h5 : 2 * v ≤ v0 := by
    have h6 : v * 2 ≤ v0 / p * p := by rw [hv]; exact Nat.mul_le_mul_left _ hp
    have h7 := Nat.div_mul_le_self v0 p
    omega
  rw [Nat.pow_succ, Nat.mul_assoc]
  exact Nat.le_trans (Nat.mul_le_mul_left _ h5) hD.low
end Go.Proofs.YtfpmhahjemdodaaGreatDoor
namespace Go.Proofs.YtfpmhahjemdodaaGreatDoor
open Go.RowKit
/-- The letters told when v is left; no nought was told last, if nothing is left. -/
structure RtxT (r n v k : Nat) (D : List Nat) : Prop where
  base : TextT r n 1 v k D
  last : v = 0 → dstrip D = D
theorem RtxT.next {r n v k : Nat} {D : List Nat} (h : RtxT r n v k D) (hr : 2 ≤ r) (hv : 0 < v) : RtxT r n (v / r) (k + 1) (D ++ [v % r]) := by
  obtain ⟨⟨h1, h2, h3, h4⟩, _⟩ := h
  have hm : v % r < r := Nat.mod_lt _ (by omega)
  have e := Nat.mod_add_div v r
  refine ⟨⟨h1.snoc hm, ?_, by rw [List.length_append, h3]; simp, ?_⟩, fun h0 => ?_⟩
  · rw [dv_snoc, List.length_append, List.length_singleton, Nat.pow_succ, ← h2]
    generalize v % r = z at *
    generalize v / r = x at *
    rw [← e]
    grind
  · have h5 : 2 * (v / r) ≤ v := by
      have h6 : v / r * 2 ≤ v / r * r := Nat.mul_le_mul_left _ hr
      have h7 := Nat.div_mul_le_self v r
      omega
    rw [Nat.pow_succ, Nat.mul_assoc]
    exact Nat.le_trans (Nat.mul_le_mul_left _ h5) h4
  · refine dstrip_pos (.inr ?_)
    rw [List.getLast?_append, List.getLast?_singleton]
    simp
    rw [h0, Nat.mul_zero, Nat.add_zero] at e
    omega
theorem OwnW.grown {C : Nat} {l : List Nat} {v bv : Value} {w w' : World} (h : OwnW C l v w) (hgr : w.grownBy w' bv.ownBlock) (hb : ∀ j, bv.ownBlock = some j → j < C) : OwnW C l v w' := by
  refine World.ownsRow.kept h hgr ?_
  cases hv : v.ownBlock with
  | none => exact .inl rfl
  | some b =>
    right
    intro e
    have h1 := (World.ownsRow.lt h b hv).1
    have h2 := hb b e.symm
    omega
end Go.Proofs.YtfpmhahjemdodaaGreatDoor
namespace Go.Proofs.YtfpmhahjemdodaaGreatDoor
open Go.RowKit
end Go.Proofs.YtfpmhahjemdodaaGreatDoor
namespace Go.Proofs.YtfpmhahjemdodaaGreatDoor
/-- The rung of the float nearest to N * 10^e. -/
def decR (N : Nat) (e : Int) : Nat := rnd (N * 10 ^ e.toNat * 2 ^ 1074) (10 ^ (-e).toNat)
theorem ten_pos (k : Nat) : 0 < 10 ^ k := Nat.pow_pos (by omega)
end Go.Proofs.YtfpmhahjemdodaaGreatDoor
namespace Go.Proofs.YtfpmhahjemdodaaGreatDoor
def dg10 (c : Nat) : Bool := decide (48 ≤ c) && decide (c ≤ 57)
theorem dg10_iff {c : Nat} : dg10 c = true ↔ 48 ≤ c ∧ c ≤ 57 := by unfold dg10; simp
theorem dgt_ten {c : Nat} (h : dg10 c = true) : dgt c = c - 48 ∧ dgt c < 10 := by
  have := dg10_iff.1 h
  unfold dgt
  rw [if_pos this]
  exact ⟨rfl, by omega⟩
/-- Does a minus stand ahead? -/
def sgnB (l : List Nat) : Bool := l.head? == some 45
/-- What stands behind a sign. -/
def unsg (l : List Nat) : List Nat := if l.head? = some 45 ∨ l.head? = some 43 then l.tail else l
/-- The digits ahead, and what stands behind them. -/
def run10 (l : List Nat) : List Nat := l.takeWhile dg10
def aft10 (l : List Nat) : List Nat := l.dropWhile dg10
/-- An exponent's amount, or one that is great enough. -/
def amtS (n c : Nat) : Nat := if n < 1099511627776 then n * 10 + (c - 48) else n
def amt (f : List Nat) : Nat := f.foldl amtS 0
/-- Is there an exponent ahead? -/
def expB (l : List Nat) : Bool := (l.head? == some 101 || l.head? == some 69) && !(run10 (unsg l.tail)).isEmpty
/-- The exponent ahead. -/
def expV (l : List Nat) : Int := if sgnB l.tail = true then -(amt (run10 (unsg l.tail)) : Int) else (amt (run10 (unsg l.tail)) : Int)
/-- What stands behind it. -/
def expR (l : List Nat) : List Nat := aft10 (unsg l.tail)
def exV (l : List Nat) : Int := if expB l = true then expV l else 0
def exR (l : List Nat) : List Nat := if expB l = true then expR l else l
def dotB (t : List Nat) : Bool := t.head? == some 46
/-- A decimal's digits ahead of the point, and behind it; is there one; and what stands behind its digits. -/
def dW (l : List Nat) : List Nat := run10 l
def dF (l : List Nat) : List Nat := if dotB (aft10 l) = true then run10 (aft10 l).tail else []
def dB (l : List Nat) : Bool := !((dW l).isEmpty && (dF l).isEmpty)
def dT (l : List Nat) : List Nat := if dotB (aft10 l) = true then aft10 (aft10 l).tail else aft10 l
/-- Its exponent, and what stands behind it. -/
def dX (l : List Nat) : Int := exV (dT l)
def dR (l : List Nat) : List Nat := exR (dT l)
/-- The number of digits. -/
def num (r : Nat) (f : List Nat) : Nat := pv r (fun i => dgt (f.getD i 0)) f.length
/-- The rung of a decimal's float. -/
def dV (l : List Nat) : Nat := decR (num 10 (dW l ++ dF l)) (dX l - (dF l).length)
/-! ### Numbers of digits -/
theorem num_append (r : Nat) (f g : List Nat) : num r (f ++ g) = num r f * r ^ g.length + num r g := by
  unfold num
  rw [List.length_append, pv_add]
  congr 1
  · congr 1
    refine pv_congr (fun i hi => ?_)
    rw [List.getD_eq_getElem?_getD, List.getElem?_append_left hi, ← List.getD_eq_getElem?_getD]
  · refine pv_congr (fun i hi => ?_)
    rw [List.getD_eq_getElem?_getD, List.getElem?_append_right (by omega), Nat.add_sub_cancel_left, ← List.getD_eq_getElem?_getD]
theorem num_one (r c : Nat) : num r [c] = dgt c := by
  unfold num
  show pv r _ 1 = _
  simp [pv]
theorem num_cons (r c : Nat) (f : List Nat) : num r (c :: f) = dgt c * r ^ f.length + num r f := by
  rw [show c :: f = [c] ++ f from rfl, num_append, num_one]
theorem num_lt {r : Nat} {f : List Nat} (h : ∀ c ∈ f, dgt c < r) : num r f < r ^ f.length := by
  unfold num
  refine pv_lt (fun i hi => ?_)
  rw [List.getD_eq_getElem?_getD, List.getElem?_eq_getElem hi]
  exact h _ (List.getElem_mem hi)
theorem num_ge {f : List Nat} {c : Nat} (hd : ∀ x ∈ c :: f, dg10 x = true) (hc : c ≠ 48) : 10 ^ f.length ≤ num 10 (c :: f) := by
  have h1 := dgt_ten (hd c (by simp))
  have h2 := dg10_iff.1 (hd c (by simp))
  rw [num_cons]
  have h3 : 1 * 10 ^ f.length ≤ dgt c * 10 ^ f.length := Nat.mul_le_mul_right _ (by omega)
  omega
end Go.Proofs.YtfpmhahjemdodaaGreatDoor
namespace Go.Proofs.YtfpmhahjemdodaaGreatDoor
/-- Is it a hexadecimal? -/
def hxA (l : List Nat) : Bool := l.head? == some 48 && (l.tail.head? == some 120 || l.tail.head? == some 88)
def hx16 (c : Nat) : Bool := decide (dgt c < 16)
def hxB (l : List Nat) : Bool := hxA l && !(l.drop 2).isEmpty && (l.drop 2).all hx16
def natV (r : Nat) (f : List Nat) : Nat := decR (num r f) 0
def infL : List Nat := [73, 110, 102, 105, 110, 105, 116, 121]
/-- A float's word with a sign. -/
def sgW (s : Bool) (r : Nat) : Nat := if s = true then 9223372036854775808 + r else r
def nanW : Nat := 9221120237041090560
/-- Number of what is left without white. -/
def numW (l : List Nat) : Nat :=
  if l = [] then 0 else if hxB l = true then natV 16 (l.drop 2)
  else if unsg l = infL then sgW (sgnB l) 9218868437227405312
  else if dB (unsg l) = true ∧ dR (unsg l) = [] then sgW (sgnB l) (dV (unsg l)) else nanW
/-! ### Bytes of no number -/
end Go.Proofs.YtfpmhahjemdodaaGreatDoor
