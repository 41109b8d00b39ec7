/-
  The program's table of names: add.
-/
import Derived.Test.YtjbofhaiephedaaGreatJ10
import Derived.Maps.Views
import Derived.Maps.OwnSet
import Derived.Maps.AppendAt
import Derived.StringKeys
import Derived.OwnWalk
import Derived.Deep.MidRow
namespace Go.Proofs.YtjbofhaiephedaaGreat
open Go.RowKit Go.Shelf Go.Maps Go.WideMaps
attribute [local go_sem] stFl hmf
def kyL (ls : List ByteArray) : List Lit := ls.map fun s => Lit.string s.data.toList
/-- The table at B, its map at mb: these names, in this order. -/
structure Tbl (mb B : Nat) (ls : List ByteArray) (w : World) (v : Value) : Prop where
  row : w.heap[B]? = some (.cells #[v, .map (some mb)] 59 (0, 0))
  own : w.ownsRow (B + 1) 9 1 v ls.length (ls.map Value.string)
  map : w.ownsMap Tryz.prog 9 (unitElem (H := Unit)) mb ls.length (setOf (.agg []) (kyL ls))
  lt : mb < B
def addL (ls : List ByteArray) (s : ByteArray) : List ByteArray := if ls.any fun x => x.data.toList == s.data.toList then ls else ls ++ [s]
theorem law_str : Keyed Tryz.prog 9 := string_keyed Tryz.underlying9
theorem zero_unit (w : World) : (zeroValue 102).run Tryz.prog w = .ok (.agg #[]) w := by kernel_rfl
theorem info_str : (Tryz.prog.info? 9).map (fun i => (i.zero, i.size, i.bytes)) = some (some (.string ⟨#[]⟩), 1, 16) := by kernel_rfl
theorem has_ky (ls : List ByteArray) (s : ByteArray) : Maps.has (setOf (H := Unit) (.agg []) (kyL ls)) (.string s.data.toList) = ls.any fun x => x.data.toList == s.data.toList := by
  unfold kyL
  rw [has_setOf _ _ _ (fun y hy => by obtain ⟨_, _, rfl⟩ := List.mem_map.1 hy; trivial), List.any_map]
  rfl
theorem grown_at {w : World} (b : Nat) (v : Value) : w.grownBy (w.setCell ⟨b, 0, none⟩ v) (some b) :=
  ⟨rfl, rfl, rfl, by simp [World.setCell], fun k hk hne => Below.heap_setCell _ _ _ _ (fun e => hne (by rw [e]))⟩
theorem row_none {w : World} {base : Nat} {e : TypeId} {size : Nat} {v : Value} {n : Nat} {xs : List Value} (h : w.ownsRow base e size v n xs) {b : Nat} (hb : b < base) : some b ≠ v.ownBlock := fun e1 => by
  have := (h.lt b e1.symm).1
  omega
set_option maxRecDepth 100000 in
set_option maxHeartbeats 2000000 in
theorem add_known {mb B : Nat} {ls : List ByteArray} {v : Value} (s : ByteArray) (w : World) (hT : Tbl mb B ls w v) (hs : s.size ≤ maxLen) (hk : (ls.any fun x => x.data.toList == s.data.toList) = true) :
    Calls Tryz.prog 43 #[.pointer (some ⟨B, 0, none⟩), .string s] w fun e w' => (∃ v, e = .returned v) ∧ Tbl mb B ls w' v ∧ Below mb w w' := by
  have c1 : w.cell? ⟨B, 1, none⟩ = some (.map (some mb)) := cell_of_row _ _ 1 _ _ _ hT.row
  have hB := cell_lt c1
  have hown := hT.map
  have hh := has_ky ls s
  rw [hk] at hh
  have hkey : keyOf Tryz.prog 9 (.string s) = some (.string s.data.toList) := keyOf_string_mk Tryz.underlying9 hs
  generalize setOf (H := Unit) (.agg []) (kyL ls) = D at hown hh
  have HT := Lib.hid hT
  clear hT hk
  go_enter Tryz.func43, Tryz.ntmps43
  go_wp2_with (at_lookup; refine wpList_lookup_own_unit _ rfl _ _ 57 rfl 9 102 law_str Tryz.underlying57 (zero_unit _) mb ls.length _ rfl hown _ _ rfl hkey ?_)
  go_end0
  have h := HT.out
  have hl := h.lt
  exact ⟨⟨_, rfl⟩, ⟨((Below.refl _ _).alloc (Nat.le_refl _) _).block B hB |>.trans h.row, h.own.alloc _, h.map.alloc _, h.lt⟩, (Below.refl _ _).alloc (by omega) _⟩
set_option maxRecDepth 100000 in
set_option maxHeartbeats 2000000 in
theorem add_new {mb B : Nat} {ls : List ByteArray} {v : Value} (s : ByteArray) (w : World) (hT : Tbl mb B ls w v) (hs : s.size ≤ maxLen) (hle : ls.length ≤ 4194304) (hk : (ls.any fun x => x.data.toList == s.data.toList) = false) :
    Calls Tryz.prog 43 #[.pointer (some ⟨B, 0, none⟩), .string s] w fun e w' => (∃ v, e = .returned v) ∧ (∃ v', Tbl mb B (ls ++ [s]) w' v') ∧ Below mb w w' := by
  obtain ⟨i0, hi, hz0, hz1, hz2⟩ := info_parts info_str
  have c1 : w.cell? ⟨B, 1, none⟩ = some (.map (some mb)) := cell_of_row _ _ 1 _ _ _ hT.row
  have hB := cell_lt c1
  have hown := hT.map
  have hh := has_ky ls s
  rw [hk] at hh
  have hkey : keyOf Tryz.prog 9 (.string s) = some (.string s.data.toList) := keyOf_string_mk Tryz.underlying9 hs
  have hset : setOf (H := Unit) (.agg []) (kyL (ls ++ [s])) = (setOf (.agg []) (kyL ls)).put (.string s.data.toList) (.agg []) := by
    unfold kyL
    rw [List.map_append, List.map_singleton, setOf_snoc]
  have HSET := Lib.hid hset
  clear hset
  obtain ⟨D, hD⟩ : ∃ D, setOf (H := Unit) (.agg []) (kyL ls) = D := ⟨_, rfl⟩
  rw [hD] at hown hh HSET
  have HT := Lib.hid hT
  have HB := Lib.hid hB
  have hbl : mb < B := hT.lt
  have hro : w.ownsRow (B + 1) 9 1 v ls.length (ls.map Value.string) := hT.own
  have hmx : ls.length < maxLen := by unfold maxLen; omega
  have hle2 : (ls.length + 1) * 16 ≤ 140737488355328 := by omega
  have HMX := Lib.hid hmx
  have HL2 := Lib.hid hle2
  clear hT hk hD hle hmx hle2
  go_enter Tryz.func43, Tryz.ntmps43
  go_wp2_with (first
    | (at_lookup; refine wpList_lookup_own_unit _ rfl _ _ 57 rfl 9 102 law_str Tryz.underlying57 (zero_unit _) mb ls.length _ rfl hown _ _ rfl hkey ?_)
    | (at_mapUpdate; refine wpList_mapUpdate_own _ rfl _ _ _ 57 rfl 9 102 law_str Tryz.underlying57 (unitElem (H := Unit)) mb ls.length _ rfl (hown.alloc _) HMX.out _ _ _ rfl rfl hkey _ [] unitElem_mk ?_; intro w1 hown1 hgrow1; refine Hid.out ?_))
  have r1 : w1.heap[B]? = some (.cells #[v, .map (some mb)] 59 (0, 0)) := (hgrow1.block B (by simp only [World.size_alloc]; have := HB.out; omega) (fun e => by cases e; omega)).trans ((((Below.refl _ _).alloc (Nat.le_refl _) _).block B HB.out).trans HT.out.row)
  have hro1 := (hro.alloc (.cells #[] 102)).kept hgrow1 (Or.inr (row_none hro (by omega)).symm)
  have s1 := hgrow1.size
  have hz1' : w.heap.size + 1 ≤ w1.heap.size := by simpa using s1
  have hb1 : Below mb w w1 := ((Below.refl mb w).alloc (by have := HB.out; omega) _).trans ⟨hgrow1.os, hgrow1.tape, hgrow1.output, hgrow1.size, fun k hk => hgrow1.block k (by simp only [World.size_alloc]; have := HB.out; omega) (fun e => by cases e; omega)⟩
  have d0 : w1.cell? ⟨B, 0, none⟩ = some v := cell_of_row _ _ 0 _ _ _ r1
  have R1 := Lib.hid r1
  have HB1 := Lib.hid hb1
  have HW1 := Lib.hid hz1'
  have HO1 := Lib.hid hown1
  clear hgrow1 s1 hb1 hz1' r1 hro hown hown1 c1
  refine Lib.hid ?_
  go_wp2_with (at_builtin; refine wpList_append_own _ rfl _ _ 34 rfl (B + 1) 9 i0 (.string ⟨#[]⟩) 1 16 Tryz.underlying34 hi hz0 hz1 hz2 rfl (by decide) _ _ _ rfl (hro1.alloc _) ⟨w1.heap.size, 0, none⟩ 1 1 [.string s] rfl rfl (cell_one_new _ _ _) (by simp [Value.oneCell']) HMX.out HL2.out (by have := HW1.out; have := HB.out; simp only [World.size_alloc]; omega) ?_; intro v' w2 hown2 hgrow2 hnil2; refine Hid.out ?_)
  obtain ⟨g, cap, rfl⟩ : ∃ g cap, v' = .slice (some ⟨g, 0, none⟩) (ls.length + 1) cap := by
    rcases hown2.2 with ⟨_, h0⟩ | ⟨g, cap, cur, h0, _⟩
    · omega
    · exact ⟨g, cap, h0⟩
  have hlt2 := (hown2.lt g rfl).1
  have hz2' := hgrow2.size
  have hBw : B < w1.heap.size := by have := HW1.out; have := HB.out; omega
  have hne : some B ≠ v.ownBlock := row_none hro1 (Nat.lt_succ_self B)
  have hnm : some mb ≠ v.ownBlock := row_none hro1 (by omega)
  have r2 : w2.heap[B]? = some (.cells #[v, .map (some mb)] 59 (0, 0)) := (hgrow2.block B (by simp only [World.size_alloc]; omega) hne).trans ((((Below.refl _ _).alloc (Nat.le_refl _) _).block B hBw).trans R1.out)
  have hom2 := (HO1.out.alloc (.cells #[.string s] 9)).kept hgrow2 hnm
  have hb2 : Below mb w1 w2 := ((Below.refl mb w1).alloc (by omega) _).trans ⟨hgrow2.os, hgrow2.tape, hgrow2.output, hgrow2.size, fun k hk => hgrow2.block k (by simp only [World.size_alloc]; omega) (row_none hro1 (by omega))⟩
  obtain ⟨f1, f2⟩ : w2.cell? ⟨B, 0, none⟩ = some v ∧ w2.frozen? ⟨B, 0, none⟩ = false := ⟨cell_of_row _ _ 0 _ _ _ r2, frozen_of_row _ _ 0 _ _ r2⟩
  have R2 := Lib.hid r2
  have HO2 := Lib.hid hown2
  have HM2 := Lib.hid hom2
  have HB2 := Lib.hid hb2
  clear r2 hown2 hom2 hb2 hgrow2 hnil2 hro1 d0 hz2'
  refine Lib.hid ?_
  go_wp2
  go_end0
  have e9 : (w2.setCell ⟨B, 0, none⟩ (.slice (some ⟨g, 0, none⟩) (ls.length + 1 : Nat) cap)).heap[B]? = some (.cells #[.slice (some ⟨g, 0, none⟩) (ls.length + 1 : Nat) cap, .map (some mb)] 59 (0, 0)) := (heap_setCell_same _ B 0 _ _ _ R2.out).trans rfl
  refine ⟨⟨_, rfl⟩, ⟨_, e9, ?_, ?_, hbl⟩, (HB1.out.trans HB2.out).setCell (p := ⟨B, 0, none⟩) (by show mb ≤ B; omega) _⟩
  · have h := HO2.out.kept (grown_at B (.slice (some ⟨g, 0, none⟩) (ls.length + 1 : Nat) cap)) (Or.inr (row_none HO2.out (Nat.lt_succ_self B)).symm)
    rw [List.length_append, List.map_append]
    exact h
  · have h := HM2.out.kept (grown_at B (.slice (some ⟨g, 0, none⟩) (ls.length + 1 : Nat) cap)) (fun e => by cases e; omega)
    rw [HSET.out, List.length_append]
    exact h
theorem add_any {mb B : Nat} {ls : List ByteArray} {v : Value} (s : ByteArray) (w : World) (hT : Tbl mb B ls w v) (hs : s.size ≤ maxLen) (hle : ls.length ≤ 4194304) :
    Calls Tryz.prog 43 #[.pointer (some ⟨B, 0, none⟩), .string s] w fun e w' => (∃ v, e = .returned v) ∧ (∃ v', Tbl mb B (addL ls s) w' v') ∧ Below mb w w' := by
  unfold addL
  cases hk : (ls.any fun x => x.data.toList == s.data.toList)
  · rw [if_neg (by simp)]
    exact add_new s w hT hs hle hk
  · rw [if_pos rfl]
    exact (add_known s w hT hs hk).mono fun e w' ⟨h1, h2, h3⟩ => ⟨h1, ⟨_, h2⟩, h3⟩
end Go.Proofs.YtjbofhaiephedaaGreat
