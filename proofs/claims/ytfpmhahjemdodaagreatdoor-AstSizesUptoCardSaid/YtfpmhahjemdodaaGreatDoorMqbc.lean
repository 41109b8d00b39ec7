/-
  The law's own tree. The contract of the program's Reserved. The law's own tree printed; its awake tells true. A tree as an argument: read as plain data, it lies in memory as a tree.
-/
import Derived.Test.YtfpmhahjemdodaaGreatDoorMqbb
import GoSem.Core.Utf8
import Derived.Lib.Strings
import Derived.WalkKit
import Derived.WalkSpells
import Derived.WalkLawsBesides
import Derived.Deep.QuietTactic
import Derived.BigQuiet
import Derived.Laws.BitsAllLaws
import Derived.Lib.Hide
import Derived.Laws.BytesString
import Derived.Laws.Cells
import Derived.Deep.OwnRows
import Derived.Laws.CopyOwn
import Derived.Deep.AppendLies
import Derived.Lib.BitFns
import Derived.Lib.LaidTab
import Derived.Lib.RuneBytes
import Derived.OwnWalk
import Ieee.Arith
import GoSem.Core.Float
import Derived.Deep.RegionHeld3
import Derived.Laws.Closers25b
import Derived.ProofKit
import Derived.OpenShut
import Derived.SizedLaws
import Derived.Deep.RegionWith
import Derived.BigRegion
import Derived.Laws.FloatArith
import Derived.Laws.Externs
import Derived.Lib.ItoaNum
import Derived.Deep.DeepCutAuto
import Derived.Deep.WholeRow
import Derived.Laws.Tables
import Derived.Laws.EntriesVeiled
import Derived.Lib.SlTrimSet
import Derived.Lib.Case
import Derived.Lib.AppendIntMem
import Derived.Test.YtfpmhahjemdodaaGreatDoorProg
import Derived.Test.YtfpmhahjemdodaaGreatDoorRows
import Derived.Test.YtfpmhahjemdodaaGreatDoorShelf
import Derived.Test.YtfpmhahjemdodaaGreatDoorMqaz
import Derived.Test.YtfpmhahjemdodaaGreatDoorMqay
import Derived.Test.YtfpmhahjemdodaaGreatDoorMqag
import Derived.ChangeArms
import Derived.ChangeShapes
import Derived.Deep.Heap
namespace Go.Proofs.YtfpmhahjemdodaaGreatDoor
open Go.RowKit Go.Shelf
attribute [local go_sem] stFl hmf
structure Tf (W : World) (bE bC bF : Nat) (S : ByteArray) : Prop where
  eb : W.heap[bE]? = some (.cells #[.int .i64 47, .string ⟨#[]⟩, .string ⟨#[]⟩, .float .f64 0, .bool false, .slice (some ⟨bC, 0, none⟩) 1 1, .int .i64 0] 25 (0, 0))
  cb : W.heap[bC]? = some (.cells #[.int .i64 17, .string ⟨#[]⟩, .string ⟨#[]⟩, .float .f64 0, .bool false, .slice (some ⟨bF, 0, none⟩) 2 2, .int .i64 0] 25 (0, 0))
  fb : W.heap[bF]? = some (.cells #[.int .i64 2, .string ⟨#[]⟩, .string S, .float .f64 0, .bool false, .slice none 0 0, .int .i64 0, .int .i64 5, .string ⟨#[]⟩, .string ⟨#[]⟩, .float .f64 4607182418800017408, .bool false, .slice none 0 0, .int .i64 0] 25 (0, 0))
theorem Tf.lt {W : World} {bE bC bF : Nat} {S : ByteArray} (h : Tf W bE bC bF S) : bE < W.heap.size ∧ bC < W.heap.size ∧ bF < W.heap.size :=
  ⟨(Array.getElem?_eq_some_iff.1 h.eb).1, (Array.getElem?_eq_some_iff.1 h.cb).1, (Array.getElem?_eq_some_iff.1 h.fb).1⟩
theorem Tf.on {W W' : World} {bE bC bF : Nat} {S : ByteArray} (h : Tf W bE bC bF S) (b : Below W.heap.size W W') : Tf W' bE bC bF S :=
  ⟨(b.block _ h.lt.1).trans h.eb, (b.block _ h.lt.2.1).trans h.cb, (b.block _ h.lt.2.2).trans h.fb⟩
def z7 : Array Value := #[.int .i64 0, .string ⟨#[]⟩, .string ⟨#[]⟩, .float .f64 0, .bool false, .slice none 0 0, .int .i64 0]
theorem ndR {fn : Func} {p : Tmp} {R : Ending → World → Prop} {a : Act} {w : World} {g : Nat} {c : Array Value} (hG : w.heap[g]? = some (.cells c 25 (0, 0))) (hc : c.size = 7) (hr : fn.results = #[.cell p 25]) (ha : a.tmps.getD p undef = .pointer (some ⟨g, 0, none⟩)) (hd : a.defers = []) (hR : R (.returned (.agg c)) w) : bodyPost Tryz.prog fn R .ret a w :=
  bodyPost_ret (results_cell_one hr _ _ _ _ _ ha (run_loadVar_row _ g 25 25 c (0, 0) _ hG Tryz.underlying25 rfl (by rw [hc]; kernel_rfl))) hd hR
set_option maxRecDepth 100000 in
set_option maxHeartbeats 2000000 in
theorem call_any (w : World) : Calls Tryz.prog 13 #[] w fun e w' => (∃ bE bC bF, e = .returned (.agg #[.int .i64 40, .string ⟨#[]⟩, .string ⟨#[]⟩, .float .f64 0, .bool false, .slice (some ⟨bE, 0, none⟩) 1 1, .int .i64 0]) ∧ Tf w' bE bC bF (wdS [102])) ∧ Below w.heap.size w w' := by
  have C1 := Lib.hid (fun W => (show Calls Tryz.prog 14 #[.string ⟨#[102]⟩] W fun e w' => e = .returned (.string (wdS [102])) ∧ Below W.heap.size W w' from vwide_any [102] W (by decide) (by decide)))
  obtain ⟨S, hS⟩ : ∃ S, wdS [102] = S := ⟨_, rfl⟩
  rw [hS] at C1 ⊢
  clear hS
  go_enter Tryz.func13, Tryz.ntmps13
  go_upto_region 1 with fail
  rw [show (#[.int .i64 0, .string ⟨#[]⟩, .string ⟨#[]⟩, .float .f64 0, .bool false, .slice none 0 0, .int .i64 0] : Array Value) = z7 from rfl]
  obtain ⟨W1, hW1⟩ : ∃ W1, w.alloc (.cells z7 25) = W1 := ⟨_, rfl⟩
  have G0 := Lib.hid (show W1.heap[w.heap.size]? = some (.cells z7 25 (0, 0)) by rw [← hW1]; exact new1 w _ _)
  have S1 := Lib.hid (show W1.heap.size = w.heap.size + 1 by rw [← hW1]; simp)
  have HB1 := Lib.hid (show Below w.heap.size w W1 by rw [← hW1]; exact b1 _)
  rw [hW1]
  clear hW1
  go_wp2_with fail
  refine (C1.out _).mono ?_
  rintro e w2 ⟨rfl, b2⟩
  have G2 := Lib.hid ((b2.block w.heap.size (by have := S1.out; omega)).trans G0.out)
  have S2 := Lib.hid (show w.heap.size < w2.heap.size by have := S1.out; have := b2.size; omega)
  have HB2 := Lib.hid (HB1.out.trans (b2.mono HB1.out.size))
  clear b2 C1 G0 S1 HB1
  go_upto_region 2 with (refine wpList_store_row rfl 25 _ _ rfl w2.heap.size _ rfl rfl 25 _ (heap_alloc_last w2 _) (by kernel_rfl) rfl (by kernel_rfl) ?_; rw [World.setRow_alloc_new])
  obtain ⟨W3, hW3⟩ : ∃ W, w2.alloc (.cells #[.int .i64 2, .string ⟨#[]⟩, .string S, .float .f64 0, .bool false, .slice none 0 0, .int .i64 0] 25) = W := ⟨_, rfl⟩
  have n3 := Lib.hid (show W3.heap[w2.heap.size]? = some (.cells #[.int .i64 2, .string ⟨#[]⟩, .string S, .float .f64 0, .bool false, .slice none 0 0, .int .i64 0] 25 (0, 0)) by rw [← hW3]; exact new1 w2 _ _)
  have s3 : W3.heap.size = w2.heap.size + 1 := by rw [← hW3]; simp
  have b3 : Below w2.heap.size w2 W3 := by rw [← hW3]; exact b1 _
  rw [hW3]
  have G3 := Lib.hid ((b3.block _ S2.out).trans G2.out)
  have HB3 := Lib.hid (HB2.out.trans (b3.mono HB2.out.size))
  have L3 := Lib.hid (show w2.heap.size < W3.heap.size by omega)
  have S3 := Lib.hid (show w.heap.size < W3.heap.size by have := S2.out; omega)
  clear G2 HB2 S2 b3 s3 hW3
  go_upto_region 3 with (refine wpList_store_row rfl 25 _ _ rfl W3.heap.size _ rfl rfl 25 _ (heap_alloc_last W3 _) (by kernel_rfl) rfl (by kernel_rfl) ?_; rw [World.setRow_alloc_new])
  obtain ⟨W4, hW4⟩ : ∃ W, W3.alloc (.cells #[.int .i64 5, .string ⟨#[]⟩, .string ⟨#[]⟩, .float .f64 4607182418800017408, .bool false, .slice none 0 0, .int .i64 0] 25) = W := ⟨_, rfl⟩
  have n4 : W4.heap[W3.heap.size]? = some (.cells #[.int .i64 5, .string ⟨#[]⟩, .string ⟨#[]⟩, .float .f64 4607182418800017408, .bool false, .slice none 0 0, .int .i64 0] 25 (0, 0)) := by rw [← hW4]; exact new1 W3 _ _
  have s4 : W4.heap.size = W3.heap.size + 1 := by rw [← hW4]; simp
  have b4 : Below W3.heap.size W3 W4 := by rw [← hW4]; exact b1 _
  rw [hW4]
  have n3' := (b4.block _ L3.out).trans n3.out
  have G4 := Lib.hid ((b4.block _ S3.out).trans G3.out)
  have HB4 := Lib.hid (HB3.out.trans (b4.mono HB3.out.size))
  have S4 := Lib.hid (show w.heap.size < W4.heap.size by have := S3.out; omega)
  clear G3 HB3 S3 L3 b4 s4 hW4 n3
  obtain ⟨c0, c1, c2, c3, c4, c5, c6⟩ := cells7 n3'
  obtain ⟨d0, d1, d2, d3, d4, d5, d6⟩ := cells7 n4
  clear n3' n4
  go_upto_region 4 with (refine wpList_store_row rfl 25 _ _ rfl (W4.heap.size + 1) _ rfl rfl 25 _ (new2 W4 _ _ _) (by kernel_rfl) rfl (by kernel_rfl) ?_; rw [row2])
  obtain ⟨W5, hW5⟩ : ∃ W, (W4.alloc (.cells #[.int .i64 2, .string ⟨#[]⟩, .string S, .float .f64 0, .bool false, .slice none 0 0, .int .i64 0, .int .i64 5, .string ⟨#[]⟩, .string ⟨#[]⟩, .float .f64 4607182418800017408, .bool false, .slice none 0 0, .int .i64 0] 25)).alloc (.cells #[.int .i64 17, .string ⟨#[]⟩, .string ⟨#[]⟩, .float .f64 0, .bool false, .slice (some ⟨W4.heap.size, 0, none⟩) 2 2, .int .i64 0] 25) = W := ⟨_, rfl⟩
  have nF : W5.heap[W4.heap.size]? = some (.cells #[.int .i64 2, .string ⟨#[]⟩, .string S, .float .f64 0, .bool false, .slice none 0 0, .int .i64 0, .int .i64 5, .string ⟨#[]⟩, .string ⟨#[]⟩, .float .f64 4607182418800017408, .bool false, .slice none 0 0, .int .i64 0] 25 (0, 0)) := by rw [← hW5]; exact ((b1 _).block _ (by simp)).trans (new1 W4 _ _)
  have nC : W5.heap[W4.heap.size + 1]? = some (.cells #[.int .i64 17, .string ⟨#[]⟩, .string ⟨#[]⟩, .float .f64 0, .bool false, .slice (some ⟨W4.heap.size, 0, none⟩) 2 2, .int .i64 0] 25 (0, 0)) := by rw [← hW5]; exact new2 W4 _ _ _
  have s5 : W5.heap.size = W4.heap.size + 2 := by rw [← hW5]; simp
  have b5 : Below W4.heap.size W4 W5 := by rw [← hW5]; exact (b1 _).alloc (by simp) _
  rw [hW5]
  clear hW5 c0 c1 c2 c3 c4 c5 c6 d0 d1 d2 d3 d4 d5 d6
  obtain ⟨c0, c1, c2, c3, c4, c5, c6⟩ := cells7 nC
  have g5 := (b5.block _ S4.out).trans G4.out
  have HB5 := Lib.hid (HB4.out.trans (b5.mono HB4.out.size))
  have hlt : w.heap.size < W4.heap.size := S4.out
  have HG := Lib.hid (fun (A B : Obj) => show ((W5.alloc A).alloc B).heap[w.heap.size]? = some (.cells z7 25 (0, 0)) from ((b1 B).block _ (by simp; omega)).trans (((b1 A).block _ (by omega)).trans g5))
  have NF := Lib.hid nF
  have S5 := Lib.hid s5
  have SL := Lib.hid hlt
  clear g5 G4 HB4 S4 nF nC s5 b5 hlt
  go_wp2_with (refine wpList_store_row rfl 25 _ _ rfl w.heap.size _ rfl rfl 25 _ (HG.out _ _) (by kernel_rfl) rfl (by kernel_rfl) ?_)
  clear c0 c1 c2 c3 c4 c5 c6
  have h1 := S5.out
  have h2 := SL.out
  refine ndR (setRow_heap _ _ _ _ _ _ (HG.out _ _)) rfl rfl rfl rfl ⟨⟨W5.heap.size + 1, W5.heap.size, W4.heap.size, rfl, ⟨?_, ?_, ?_⟩⟩, ?_⟩
  · exact (setRow_other _ _ _ _ (by omega)).trans (new2 W5 _ _ _)
  · exact (setRow_other _ _ _ _ (by omega)).trans (((b1 _).block _ (by simp)).trans (new1 W5 _ _))
  · exact (setRow_other _ _ _ _ (by omega)).trans (((b1 _).block _ (by simp; omega)).trans (((b1 _).block _ (by omega)).trans NF.out))
  · refine below_setRowN ?_ (Nat.le_refl _) _
    exact (HB5.out.alloc (by omega) _).alloc (by simp; omega) _
/-- The law's own tree. -/
def ndC : Nd := ⟨17, ⟨#[]⟩, ⟨#[]⟩, 0, false, 0⟩
def ndE : Nd := ⟨47, ⟨#[]⟩, ⟨#[]⟩, 0, false, 0⟩
def ndP : Nd := ⟨40, ⟨#[]⟩, ⟨#[]⟩, 0, false, 0⟩
def uC : Tn := .mk ndC [.mk ndf [], .mk nd1 []]
def uE : Tn := .mk ndE [uC]
def uP : Tn := .mk ndP [uE]
theorem Tf.at {W : World} {bE bC bF : Nat} (h : Tf W bE bC bF (wdS [102])) : AtS (fun b => b < W.heap.size) W [uE] (.slice (some ⟨bE, 0, none⟩) 1 1) := by
  have nil : AtS (fun b => b < W.heap.size) W ([] : List Tn) (.slice none 0 0) := ⟨none, 0, rfl, ⟨by simp, by simp⟩, fun h => absurd rfl h⟩
  have hF : AtS (fun b => b < W.heap.size) W [.mk ndf [], .mk nd1 []] (.slice (some ⟨bF, 0, none⟩) 2 2) := by
    refine ⟨_, 2, rfl, ⟨by simp [maxLen], by simp⟩, fun _ => ⟨bF, 0, rfl, h.lt.2.2, ?_⟩⟩
    rw [AtL, AtL, AtL]
    refine ⟨⟨celN ndf (.slice none 0 0), fun j v hv => ?_, at_node.2 ⟨_, rfl, nil⟩⟩, ⟨celN nd1 (.slice none 0 0), fun j v hv => ?_, at_node.2 ⟨_, rfl, nil⟩⟩, trivial⟩
    · refine (cell_of_row W bF _ _ _ _ h.fb).trans ?_
      rw [List.getElem?_toArray]
      rw [Nat.zero_add]
      exact (List.getElem?_append_left (l₂ := celN nd1 (.slice none 0 0)) (List.getElem?_eq_some_iff.1 hv).1).trans hv
    · refine (cell_of_row W bF _ _ _ _ h.fb).trans ?_
      rw [List.getElem?_toArray]
      exact (List.getElem?_append_right (l₁ := celN ndf (.slice none 0 0)) (by show 7 ≤ _; omega)).trans (by rw [show 0 + 7 + j - (celN ndf (.slice none 0 0)).length = j by show 0 + 7 + j - 7 = j; omega]; exact hv)
  have one : ∀ (b : Nat) (d : Nd) (l : List Tn) (s : Value), W.heap[b]? = some (.cells (celN d s).toArray 25 (0, 0)) → AtS (fun b => b < W.heap.size) W l s → AtS (fun b => b < W.heap.size) W [.mk d l] (.slice (some ⟨b, 0, none⟩) 1 1) := fun b d l s hb hs => by
    refine ⟨_, 1, rfl, ⟨by simp [maxLen], by simp⟩, fun _ => ⟨b, 0, rfl, (Array.getElem?_eq_some_iff.1 hb).1, ?_⟩⟩
    rw [AtL, AtL]
    refine ⟨⟨celN d s, fun j v hv => ?_, at_node.2 ⟨s, rfl, hs⟩⟩, trivial⟩
    refine (cell_of_row W b _ _ _ _ hb).trans ?_
    rw [List.getElem?_toArray, Nat.zero_add]
    exact hv
  exact one bE ndE [uC] _ h.eb (one bC ndC _ _ h.cb hF)
end Go.Proofs.YtfpmhahjemdodaaGreatDoor
namespace Go.Proofs.YtfpmhahjemdodaaGreatDoor
open Go.RowKit
def resW : List (List UInt8) := [[98, 114, 101, 97, 107], [99, 97, 115, 101], [99, 97, 116, 99, 104], [99, 108, 97, 115, 115], [99, 111, 110, 115, 116], [99, 111, 110, 116, 105, 110, 117, 101], [100, 101, 98, 117, 103, 103, 101, 114], [100, 101, 102, 97, 117, 108, 116], [100, 101, 108, 101, 116, 101], [100, 111], [101, 108, 115, 101], [101, 110, 117, 109], [101, 120, 112, 111, 114, 116], [101, 120, 116, 101, 110, 100, 115], [102, 97, 108, 115, 101], [102, 105, 110, 97, 108, 108, 121], [102, 111, 114], [102, 117, 110, 99, 116, 105, 111, 110], [105, 102], [105, 109, 112, 108, 101, 109, 101, 110, 116, 115], [105, 109, 112, 111, 114, 116], [105, 110], [105, 110, 115, 116, 97, 110, 99, 101, 111, 102], [105, 110, 116, 101, 114, 102, 97, 99, 101], [108, 101, 116], [110, 101, 119], [110, 117, 108, 108], [112, 97, 99, 107, 97, 103, 101], [112, 114, 105, 118, 97, 116, 101], [112, 114, 111, 116, 101, 99, 116, 101, 100], [112, 117, 98, 108, 105, 99], [114, 101, 116, 117, 114, 110], [115, 116, 97, 116, 105, 99], [115, 117, 112, 101, 114], [115, 119, 105, 116, 99, 104], [116, 104, 105, 115], [116, 104, 114, 111, 119], [116, 114, 117, 101], [116, 114, 121], [116, 121, 112, 101, 111, 102], [118, 97, 114], [118, 111, 105, 100], [119, 104, 105, 108, 101], [119, 105, 116, 104], [121, 105, 101, 108, 100]]
set_option maxRecDepth 100000 in
set_option maxHeartbeats 4000000 in
theorem xReserved_enc (s : ByteArray) (w : World) (hs : s.size ≤ 17592186044416) :
    Calls Tryz.prog 141 #[.string s] w fun e w' => e = .returned (.bool (resW.any fun x => (⟨(encS s).toArray⟩ : ByteArray).toList == x)) ∧ Below w.heap.size w w' := by
  have C1 := Lib.hid (fun W => encode_any s W hs)
  obtain ⟨E, hE⟩ : ∃ E : ByteArray, (⟨(encS s).toArray⟩ : ByteArray) = E := ⟨_, rfl⟩
  rw [hE] at C1 ⊢
  clear hs hE
  go_enter Tryz.func141, Tryz.ntmps141
  go_wp2_with fail
  refine (C1.out _).mono ?_
  rintro e w' ⟨rfl, hb⟩
  go_wp2
  all_goals try go_ret
  all_goals first
    | exact ⟨by simp only [resW, List.any_cons, List.any_nil, *, Bool.true_or, Bool.or_true, Bool.or_false]; rfl, hb⟩
    | (exfalso; simp_all)

end Go.Proofs.YtfpmhahjemdodaaGreatDoor
namespace Go.Proofs.YtfpmhahjemdodaaGreatDoor
open Go.RowKit Go.Shelf
attribute [local go_sem] stFl hmf
def nmdE (s : ByteArray) : Bool := nmdL (us s)
def rsvE (s : ByteArray) : Bool := resW.any fun x => (⟨(encS s).toArray⟩ : ByteArray).toList == x
theorem lxE : Lx nmdE rsvE :=
  ⟨fun s W hs => (xNamed_any s W (by omega)).mono fun e w' ⟨h1, n, h2⟩ => ⟨h1, by rw [h2]; exact below_drewN' (Below.refl _ _) n⟩, fun s W hs => xReserved_enc s W hs⟩
theorem ok_own : treeOk nmdE rsvE uP = true := by decide +kernel
theorem fit_own : Fit uP := by unfold Fit; decide +kernel
theorem check_own {bE bC bF : Nat} {W : World} (h : Tf W bE bC bF (wdS [102])) : Calls Tryz.prog 16 #[.agg #[.int .i64 40, .string ⟨#[]⟩, .string ⟨#[]⟩, .float .f64 0, .bool false, .slice (some ⟨bE, 0, none⟩) 1 1, .int .i64 0]] W fun e w' => e = .returned (.int .i64 0) ∧ Below W.heap.size W w' := by
  have hc := aCheck_any lxE uP (celN ndP (.slice (some ⟨bE, 0, none⟩) 1 1)) W (at_node.2 ⟨_, rfl, h.at⟩) fit_own (by decide +kernel)
  rw [ok_own, if_pos rfl] at hc
  exact hc
theorem text_own : (([] ++ Lib.strCells sf ++ Lib.strCells ⟨#[40]⟩ ++ Lib.strCells s1 ++ Lib.strCells ⟨#[41]⟩) ++ Lib.strCells ⟨#[59, 10]⟩ : List Value) = Lib.byteCells [102, 40, 49, 41, 59, 10] := by rfl
theorem tree_s {W0 : World} {g bE bC bF : Nat} {w : World} (fx : Fx W0 g bE bC bF (wdS [102])) (h : PS W0 g [] w) :
    Calls Tryz.prog 18 #[.pointer (some ⟨g, 0, none⟩), .agg #[.int .i64 40, .string ⟨#[]⟩, .string ⟨#[]⟩, .float .f64 0, .bool false, .slice (some ⟨bE, 0, none⟩) 1 1, .int .i64 0]] w fun e w' => e = .returned (.tuple #[]) ∧ PS W0 g (Lib.byteCells [102, 40, 49, 41, 59, 10]) w' ∧ Kb (g + 2) g w w' := by
  rw [← text_own]
  exact node_40 _ _ _ _ _ _ fx h (fun W h => statements_s fx h (fun W h => node_47 _ _ _ _ _ _ fx h (fun W h => plain_s fx h (by decide) (fun W h => at_17 _ _ _ _ _ _ h (fun W h => node_17 _ _ _ _ _ _ fx h (fun W h => call_17 fx h
    (fun W h => at_2 _ _ _ _ _ _ h (fun W h => node_2 _ _ _ _ _ _ fx h (fun W h => name_s _ h (by decide))))
    (fun W h => arguments_s h (by decide) (by decide) (fun W h => list_1 fx h (fun W h => at_5 _ _ _ _ _ _ h (fun W h => node_5 _ _ _ _ _ _ fx h (fun W h => number_s _ h (by decide))))))))))))
theorem Kb.low {B g n : Nat} {w W : World} (h : Kb B g w W) (hB : n ≤ B) (hg : n ≤ g) : Below n w W := ⟨h.os, h.tape, h.output, h.size, fun k hk => h.block k (by omega) (by omega)⟩
set_option maxRecDepth 100000 in
set_option maxHeartbeats 2000000 in
theorem print_own {bE bC bF : Nat} {w : World} (h : Tf w bE bC bF (wdS [102])) :
    Calls Tryz.prog 12 #[.agg #[.int .i64 40, .string ⟨#[]⟩, .string ⟨#[]⟩, .float .f64 0, .bool false, .slice (some ⟨bE, 0, none⟩) 1 1, .int .i64 0]] w fun e w' => e = .returned (.tuple #[.string (wdS [102, 40, 49, 41, 59, 10]), .int .i64 0]) ∧ Below w.heap.size w w' := by
  have C1 := Lib.hid (fun W (h : Tf W bE bC bF (wdS [102])) => check_own h)
  have C2 := Lib.hid (fun W => newPrinter_any W)
  have C3 := Lib.hid (fun (W0 : World) (g : Nat) w (fx : Fx W0 g bE bC bF (wdS [102])) (h : PS W0 g [] w) => tree_s fx h)
  have C4 := Lib.hid (fun (W0 : World) (g : Nat) w (h : PS W0 g (Lib.byteCells [102, 40, 49, 41, 59, 10]) w) => bstring_s [102, 40, 49, 41, 59, 10] h (by decide))
  have C5 := Lib.hid (fun W => show Calls Tryz.prog 19 #[.string ⟨([102, 40, 49, 41, 59, 10] : List UInt8).toArray⟩] W fun e w' => e = .returned (.string (wdS [102, 40, 49, 41, 59, 10])) ∧ Below W.heap.size W w' from twide_any [102, 40, 49, 41, 59, 10] W (by decide) (by decide))
  obtain ⟨Q, hQ⟩ : ∃ Q : ByteArray, (⟨([102, 40, 49, 41, 59, 10] : List UInt8).toArray⟩ : ByteArray) = Q := ⟨_, rfl⟩
  rw [hQ] at C5
  have C4 := Lib.hid (fun (W0 : World) (g : Nat) w (h : PS W0 g (Lib.byteCells [102, 40, 49, 41, 59, 10]) w) => hQ ▸ C4.out W0 g w h)
  obtain ⟨R, hR⟩ : ∃ R, wdS [102, 40, 49, 41, 59, 10] = R := ⟨_, rfl⟩
  rw [hR] at C5 ⊢
  clear hQ hR
  go_enter Tryz.func12, Tryz.ntmps12
  go_upto_region 1 with fail
  obtain ⟨W1, hW1⟩ : ∃ W1, w.alloc (.cells #[.int .i64 40, .string ⟨#[]⟩, .string ⟨#[]⟩, .float .f64 0, .bool false, .slice (some ⟨bE, 0, none⟩) 1 1, .int .i64 0] 25) = W1 := ⟨_, rfl⟩
  have hb : Below w.heap.size w W1 := by rw [← hW1]; exact b1 _
  have n1 : W1.heap[w.heap.size]? = some (.cells #[.int .i64 40, .string ⟨#[]⟩, .string ⟨#[]⟩, .float .f64 0, .bool false, .slice (some ⟨bE, 0, none⟩) 1 1, .int .i64 0] 25 (0, 0)) := by rw [← hW1]; exact new1 w _ _
  have HB1 := Lib.hid hb
  have N1 := Lib.hid n1
  have T1 := Lib.hid (h.on hb)
  obtain ⟨c0, c1, c2, c3, c4, c5, c6⟩ := cells7 n1
  rw [hW1]
  clear hW1 hb h n1
  go_wp2_with fail
  refine (C1.out _ T1.out).mono ?_
  rintro e w2 ⟨rfl, b2⟩
  have HB2 := Lib.hid (HB1.out.trans (b2.mono HB1.out.size))
  have N2 := Lib.hid ((b2.block _ (Array.getElem?_eq_some_iff.1 N1.out).1).trans N1.out)
  have T2 := Lib.hid (T1.out.on b2)
  clear b2 HB1 N1 T1 C1 c0 c1 c2 c3 c4 c5 c6
  go_wp2_with fail
  refine (C2.out _).mono ?_
  rintro e w3 ⟨rfl, hN⟩
  have T3 := Lib.hid (T2.out.on hN.b)
  have hl := (Array.getElem?_eq_some_iff.1 N2.out).1
  have n3 := (hN.b.block _ hl).trans N2.out
  have HB3 := Lib.hid (HB2.out.trans (hN.b.mono HB2.out.size))
  have HL := Lib.hid hl
  have FX := Lib.hid (show Fx w3 w2.heap.size bE bC bF (wdS [102]) from ⟨T2.out.lt.1, T2.out.lt.2.1, T2.out.lt.2.2, T3.out.eb, T3.out.cb, T3.out.fb, by
    obtain ⟨cs, -, h1, h2⟩ := hN.t
    exact ⟨cs, h1, fun e he => h2 e he⟩⟩)
  have P3 := Lib.hid (show PS w3 w2.heap.size [] w3 from ⟨⟨by omega, hN.z, _, _, .inl rfl, hN.k, ⟨rfl, .inl ⟨rfl, rfl⟩⟩⟩, Kb.refl _ _ _⟩)
  obtain ⟨c0, c1, c2, c3, c4, c5, c6⟩ := cells7 n3
  clear hN hl n3 C2 HB2 N2 T2 T3
  go_wp2_with fail
  refine (C3.out _ _ _ FX.out P3.out).mono ?_
  rintro e w4 ⟨rfl, h4, k4⟩
  have HB4 := Lib.hid (HB3.out.trans (k4.low (n := w.heap.size) (by have := HL.out; omega) (by have := HL.out; omega)))
  have P4 := Lib.hid h4
  have p2 := h4.prc.1
  clear C3 h4 k4 FX P3 HB3 c0 c1 c2 c3 c4 c5 c6
  go_wp2_with fail
  refine (C4.out _ _ _ P4.out).mono ?_
  rintro e w5 ⟨rfl, b5⟩
  have HB5 := Lib.hid (HB4.out.trans (b5.mono (by have := HL.out; omega)))
  clear C4 b5 HB4 P4 HL p2
  go_wp2_with fail
  refine (C5.out _).mono ?_
  rintro e w6 ⟨rfl, b6⟩
  have HB6 := Lib.hid (HB5.out.trans (b6.mono HB5.out.size))
  clear C5 b6 HB5
  go_wp2
  go_ret2
  exact ⟨rfl, HB6.out⟩
theorem size_own {bE bC bF : Nat} {W : World} (h : Tf W bE bC bF (wdS [102])) : Calls Tryz.prog 4 #[.agg #[.int .i64 40, .string ⟨#[]⟩, .string ⟨#[]⟩, .float .f64 0, .bool false, .slice (some ⟨bE, 0, none⟩) 1 1, .int .i64 0]] W fun e w' => e = .returned (.int .i64 5) ∧ Below W.heap.size W w' := by
  have hc := asize_any uP (some ⟨bE, 0, none⟩) 1 W h.at (by decide +kernel)
  rw [show ((uP.size : Nat) : Int) = 5 by decide +kernel] at hc
  exact hc
set_option maxRecDepth 100000 in
set_option maxHeartbeats 2000000 in
theorem awake07_any (w : World) : Calls Tryz.prog 8 #[] w fun e w' => e = .returned (.bool true) ∧ Below w.heap.size w w' := by
  have C1 := Lib.hid (fun W => call_any W)
  have C2 := Lib.hid (fun W bE bC bF (h : Tf W bE bC bF (wdS [102])) => print_own h)
  have C3 := Lib.hid (fun W => show Calls Tryz.prog 14 #[.string ⟨#[102, 40, 49, 41, 59, 10]⟩] W fun e w' => e = .returned (.string (wdS [102, 40, 49, 41, 59, 10])) ∧ Below W.heap.size W w' from vwide_any [102, 40, 49, 41, 59, 10] W (by decide) (by decide))
  have C4 := Lib.hid (fun W bE bC bF (h : Tf W bE bC bF (wdS [102])) => size_own h)
  obtain ⟨R, hR⟩ : ∃ R, wdS [102, 40, 49, 41, 59, 10] = R := ⟨_, rfl⟩
  rw [hR] at C2 C3
  obtain ⟨S, hS⟩ : ∃ R, wdS [102] = R := ⟨_, rfl⟩
  rw [hS] at C1 C2 C4
  clear hR hS
  go_enter Tryz.func8, Tryz.ntmps8
  go_wp2_with fail
  refine (C1.out _).mono ?_
  rintro e w1 ⟨⟨bE, bC, bF, rfl, h1⟩, b1⟩
  have HB1 := Lib.hid b1
  have T1 := Lib.hid h1
  clear h1 b1
  go_wp2_with fail
  refine (C2.out _ _ _ _ T1.out).mono ?_
  rintro e w2 ⟨rfl, b2⟩
  have HB2 := Lib.hid (HB1.out.trans (b2.mono HB1.out.size))
  clear b2 HB1 T1 C2
  go_wp2_with fail
  refine (C3.out _).mono ?_
  rintro e w3 ⟨rfl, b3⟩
  have HB3 := Lib.hid (HB2.out.trans (b3.mono HB2.out.size))
  clear b3 HB2 C3
  go_wp2_with fail
  refine (C1.out _).mono ?_
  rintro e w4 ⟨⟨bE', bC', bF', rfl, h4⟩, b4⟩
  have HB4 := Lib.hid (HB3.out.trans (b4.mono HB3.out.size))
  have T4 := Lib.hid h4
  clear h4 b4 HB3 C1
  go_wp2_with fail
  refine (C4.out _ _ _ _ T4.out).mono ?_
  rintro e w5 ⟨rfl, b5⟩
  have HB5 := Lib.hid (HB4.out.trans (b5.mono HB4.out.size))
  clear b5 HB4 C4 T4
  go_wp2
  go_ret
  exact ⟨rfl, HB5.out⟩
end Go.Proofs.YtfpmhahjemdodaaGreatDoor
namespace Go.Proofs.YtfpmhahjemdodaaGreatDoor
open Go.ChangeShapes Go.WideShapes Go.ChangeAt Go.RowKit
section
variable {H : Type} {enc : TypeId × Value → H} {w : World} {base : Nat} {spare : Nat → Bool} {held : Bool}
/-- What is so of each node that came in. -/
def okN (t : Tn) : Bool := (Lit.int .i64 t.datum.k).wf && (decide (t.datum.op.size ≤ maxLen) && (decide (t.datum.st.size ≤ maxLen) && ((Lit.float .f64 t.datum.nm).wf && (Lit.int .i64 t.datum.ps).wf)))
theorem atL_of {p : Nat → Prop} {W : World} {b : Nat} : ∀ (n o : Nat), (∀ i, i < n → ∃ t cs, W.rangeAt b (o + i * 7) cs ∧ At p W t cs ∧ Tr.every okN t = true) → ∃ l : List Tn, l.length = n ∧ AtL p W b o l ∧ Tr.everyL okN l = true
  | 0, o, _ => ⟨[], rfl, by rw [AtL]; trivial, by rw [Tr.everyL]⟩
  | n + 1, o, h => by
    obtain ⟨t, cs, h1, h2, h3⟩ := h 0 (by omega)
    obtain ⟨l, e1, e2, e3⟩ := atL_of n (o + 7) fun i hi => by
      have := h (i + 1) (by omega)
      rw [show o + (i + 1) * 7 = o + 7 + i * 7 by omega] at this
      exact this
    refine ⟨t :: l, by simp [e1], ?_, by rw [Tr.everyL, h3, e3]; rfl⟩
    rw [AtL]
    exact ⟨⟨cs, by simpa using h1, h2⟩, e2⟩
theorem trod_float' {P : Program} {t : TypeId} {k : FloatKind} {fuel : Nat} {cs : List Value} {x : DataW H × List MemPlace} (ht : P.underlying t = some (.float k)) (h : DataW.trod enc P w base spare held fuel t cs = some x) :
    ∃ b, cs = [.float k b] ∧ x = (.lit (.float k b), []) ∧ (Lit.float k b).wf = true := by
  cases fuel with
  | zero => simp [DataW.trod] at h
  | succ n =>
    unfold DataW.trod at h
    rw [ht] at h
    split at h <;> simp_all
set_option maxRecDepth 100000 in
theorem trodN : ∀ (fuel : Nat) {cs : List Value} {x : DataW H × List MemPlace}, DataW.trod enc Tryz.prog w base spare held fuel 25 cs = some x → ∃ t : Tn, At (fun b => b < w.heap.size) w t cs ∧ Tr.every okN t = true := by
  intro fuel
  induction fuel using Nat.strongRecOn with
  | _ fuel ih =>
  intro cs x h
  obtain ⟨xs, n, rfl, rfl, hl, hlen, hf⟩ := DataW.trod_struct Tryz.underlying25 h
  have zi : Tryz.prog.cellsOf 3 = 1 := by kernel_rfl
  have zb : Tryz.prog.cellsOf 4 = 1 := by kernel_rfl
  have zf : Tryz.prog.cellsOf 22 = 1 := by kernel_rfl
  have zst : Tryz.prog.cellsOf 9 = 1 := by kernel_rfl
  have zs : Tryz.prog.cellsOf 23 = 1 := by kernel_rfl
  have z7 : Tryz.prog.cellsOf 25 = 7 := by kernel_rfl
  rw [z7] at hl
  match cs, hl with
  | [c0, c1, c2, c3, c4, c5, c6], _ =>
    match xs, hlen with
    | [y0, y1, y2, y3, y4, y5, y6], _ =>
      have g0 : DataW.trod enc Tryz.prog w base spare held n 3 [c0] = some y0 := by
        have q := hf 0 _ rfl
        have e : ([c0, c1, c2, c3, c4, c5, c6].drop 0).take (Tryz.prog.cellsOf 3) = [c0] := by rw [zi]; rfl
        rw [← e]
        exact q
      have g1 : DataW.trod enc Tryz.prog w base spare held n 9 [c1] = some y1 := by
        have q := hf 1 _ rfl
        have e : ([c0, c1, c2, c3, c4, c5, c6].drop 1).take (Tryz.prog.cellsOf 9) = [c1] := by rw [zst]; rfl
        rw [← e]
        exact q
      have g2 : DataW.trod enc Tryz.prog w base spare held n 9 [c2] = some y2 := by
        have q := hf 2 _ rfl
        have e : ([c0, c1, c2, c3, c4, c5, c6].drop 2).take (Tryz.prog.cellsOf 9) = [c2] := by rw [zst]; rfl
        rw [← e]
        exact q
      have g3 : DataW.trod enc Tryz.prog w base spare held n 22 [c3] = some y3 := by
        have q := hf 3 _ rfl
        have e : ([c0, c1, c2, c3, c4, c5, c6].drop 3).take (Tryz.prog.cellsOf 22) = [c3] := by rw [zf]; rfl
        rw [← e]
        exact q
      have g4 : DataW.trod enc Tryz.prog w base spare held n 4 [c4] = some y4 := by
        have q := hf 4 _ rfl
        have e : ([c0, c1, c2, c3, c4, c5, c6].drop 4).take (Tryz.prog.cellsOf 4) = [c4] := by rw [zb]; rfl
        rw [← e]
        exact q
      have g5 : DataW.trod enc Tryz.prog w base spare held n 23 [c5] = some y5 := by
        have q := hf 5 _ rfl
        have e : ([c0, c1, c2, c3, c4, c5, c6].drop 5).take (Tryz.prog.cellsOf 23) = [c5] := by rw [zs]; rfl
        rw [← e]
        exact q
      have g6 : DataW.trod enc Tryz.prog w base spare held n 3 [c6] = some y6 := by
        have q := hf 6 _ rfl
        have e : ([c0, c1, c2, c3, c4, c5, c6].drop 6).take (Tryz.prog.cellsOf 3) = [c6] := by rw [zi]; rfl
        rw [← e]
        exact q
      clear hf h
      obtain ⟨k, e0, -, w0⟩ := DataW.trod_int Tryz.underlying3 g0
      obtain ⟨op, e1, -, w1⟩ := DataW.trod_string Tryz.underlying9 g1
      obtain ⟨st, e2, -, w2⟩ := DataW.trod_string Tryz.underlying9 g2
      obtain ⟨m, e3, -, w3⟩ := trod_float' Tryz.underlying22 g3
      obtain ⟨b, e4, -⟩ := DataW.trod_bool Tryz.underlying4 g4
      obtain ⟨ps, e6, -, w6⟩ := DataW.trod_int Tryz.underlying3 g6
      simp only [List.cons.injEq, and_true] at e0 e1 e2 e3 e4 e6
      subst e0 e1 e2 e3 e4 e6
      have fin : ∀ (s : Value) (l : List Tn), AtS (fun b => b < w.heap.size) w l s → Tr.everyL okN l = true →
          ∃ t : Tn, At (fun b => b < w.heap.size) w t [.int .i64 k, .string op, .string st, .float .f64 m, .bool b, s, .int .i64 ps] ∧ Tr.every okN t = true := fun s l h1 h2 => by
        refine ⟨.mk ⟨k, op, st, m, b, ps⟩ l, at_node.2 ⟨s, rfl, h1⟩, ?_⟩
        rw [Tr.every_eq, Tr.kids, h2, Bool.and_true]
        unfold okN Tr.datum
        rw [w0, w3, w6, decide_eq_true w1, decide_eq_true w2]
        rfl
      rcases DataW.trod_slice Tryz.underlying23 g5 with ⟨e5, -⟩ | ⟨a, len, cap, elems, rest, n2, rfl, e5, -, hb, hlc, hcm, hel, hel2, -, -⟩
      · simp only [List.cons.injEq, and_true] at e5
        subst e5
        exact fin _ [] ⟨none, 0, rfl, ⟨by simp, by simp⟩, fun h => absurd rfl h⟩ (by rw [Tr.everyL])
      · simp only [List.cons.injEq, and_true] at e5
        subst e5
        rw [z7] at hel2
        obtain ⟨ab, ao, asp⟩ := a
        by_cases h0 : len = 0
        · subst h0
          exact fin _ [] ⟨_, _, rfl, ⟨by simp, by simp⟩, fun h => absurd rfl h⟩ (by rw [Tr.everyL])
        · have hcs : ∀ i, i < len → ∃ ds : List Value, ds.length = 7 ∧ (∀ j, j < 7 → w.cell? (((⟨ab, ao, asp⟩ : Addr).add (i * 7)).add j) = ds[j]?) ∧ ∃ y, DataW.trod enc Tryz.prog w base spare held n2 25 ds = some y := fun i hi => by
            have h1 := hel2 i hi
            rw [List.getElem?_eq_getElem (by omega)] at h1
            obtain ⟨ds, h2, h3⟩ := Option.bind_eq_some_iff.1 h1
            obtain ⟨_, hdl, hcell⟩ := World.cells?_some h2
            exact ⟨ds, hdl, hcell, _, h3⟩
          have hspot : asp = none := by
            obtain ⟨ds, hdl, hcell, _⟩ := hcs 0 (by omega)
            have hc0 := hcell 0 (by omega)
            rw [List.getElem?_eq_getElem (by omega)] at hc0
            have := World.cell?_spot hc0
            simpa [Addr.add] using this
          subst hspot
          have hone : ∀ i, i < len → ∃ t cs, w.rangeAt ab (ao + i * 7) cs ∧ At (fun b => b < w.heap.size) w t cs ∧ Tr.every okN t = true := fun i hi => by
            obtain ⟨ds, hdl, hcell, y, h3⟩ := hcs i hi
            obtain ⟨t, ht1, ht2⟩ := ih n2 (by omega) h3
            refine ⟨t, ds, fun j v hv => ?_, ht1, ht2⟩
            have hj := (List.getElem?_eq_some_iff.1 hv).1
            have h4 := hcell j (by omega)
            rw [hv, Addr.add_mid, Addr.add_mid] at h4
            exact h4
          obtain ⟨l, h1, h2, h3⟩ := atL_of len ao hone
          subst h1
          have hbl : ab < w.heap.size := by
            obtain ⟨t, cs, hr, hA, _⟩ := hone 0 (by omega)
            obtain ⟨v, r, rfl⟩ := at_seven hA
            exact cell_lt (hr 0 v rfl)
          exact fin _ l ⟨_, _, rfl, ⟨by omega, hlc⟩, fun _ => ⟨ab, ao, rfl, hbl, h2⟩⟩ h3
end
end Go.Proofs.YtfpmhahjemdodaaGreatDoor
