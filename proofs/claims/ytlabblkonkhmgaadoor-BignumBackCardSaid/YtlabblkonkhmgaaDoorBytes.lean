/-
  Bytes in memory: rows of the call's own; strings and their bytes.
-/
import Derived.Test.YtlabblkonkhmgaaDoorDig
import Derived.Test.YtlabblkonkhmgaaDoorTold
import Derived.Laws.BytesString
import Derived.Laws.Cells
namespace Go.Proofs.YtlabblkonkhmgaaDoor
open Go.RowKit
theorem infoB : (Tryd.prog.info? 5).map (fun i => (i.zero, i.size, i.bytes)) = some (some (.int .u8 0), 1, 1) := by kernel_rfl
/-- A row of the call's own that holds the bytes l. -/
abbrev Own8 (B : Nat) (l : List Nat) (v : Value) (w : World) : Prop := w.ownsRow B 5 1 v l.length (l.map fun u => Value.int .u8 (u : Nat))
theorem Own8.nil (B : Nat) (w : World) : Own8 B [] (.slice none 0 0) w := World.ownsRow_nil _ _ _ _
theorem Own8.snoc {B : Nat} {L : List Nat} {u : Nat} {v : Value} {w : World} (h : w.ownsRow B 5 1 v (L.length + 1) (L.map (fun u => Value.int .u8 (u : Nat)) ++ [Value.int .u8 (u : Nat)])) : Own8 B (L ++ [u]) v w := by
  unfold Own8
  rw [List.length_append, List.map_append]
  exact h
theorem Own8.below {B : Nat} {l : List Nat} {v : Value} {w w' : World} (h : Own8 B l v w) (hb : Below w.heap.size w w') : Own8 B l v w' := by
  refine World.ownsRow.kept (row := none) h ⟨hb.os, hb.tape, hb.output, hb.size, fun k hk _ => hb.block k hk⟩ ?_
  cases v.ownBlock <;> simp
theorem Own8.cell {B : Nat} {l : List Nat} {g n c : Nat} {w : World} (h : Own8 B l (.slice (some ⟨g, 0, none⟩) n c) w) (k : Nat) (hk : k < l.length) :
    w.cell? ⟨g, k, none⟩ = some (.int .u8 (l.getD k 0 : Nat)) ∧ w.frozen? ⟨g, k, none⟩ = false := by
  rcases h.2 with ⟨e, _⟩ | ⟨g', cap, cur, e, hB, hg, hcap, hmax, hcur, htk⟩
  · cases e
  · cases e
    refine ⟨?_, by simp [World.frozen?, hg]⟩
    have := World.ownsRow.cells (g := g) h rfl k (.int .u8 (l.getD k 0 : Nat)) (by rw [List.getElem?_map, getD_some hk]; rfl)
    by_cases hz : k = 0
    · subst hz; simpa [Addr.add] using this
    · simpa [Addr.add, hz] using this
theorem Own8.set {B : Nat} {l : List Nat} {g n c : Nat} {w : World} (h : Own8 B l (.slice (some ⟨g, 0, none⟩) n c) w) (k u : Nat) :
    Own8 B (l.set k u) (.slice (some ⟨g, 0, none⟩) n c) (w.setCell ⟨g, k, none⟩ (.int .u8 (u : Nat))) := by
  rcases h.2 with ⟨e, _⟩ | ⟨g', cap, cur, e, hB, hg, hcap, hmax, hcur, htk⟩
  · cases e
  · cases e
    refine ⟨by rw [List.length_map, List.length_set, Nat.mul_one], .inr ⟨g, c, cur.set! k (.int .u8 (u : Nat)), by rw [List.length_set], hB, ?_, by rw [List.length_set]; exact hcap, hmax, ?_, ?_⟩⟩
    · simp [World.setCell, Array.getElem?_modify, hg]
    · simpa using hcur
    · rw [List.map_set, ← htk]
      simp only [Array.set!_eq_setIfInBounds, Array.toList_setIfInBounds, List.length_set]
      rw [List.take_set]
theorem Own8.row {B : Nat} {l : List Nat} {v : Value} {w : World} (h : Own8 B l v w) (h0 : 0 < l.length) : ∃ g c, v = .slice (some ⟨g, 0, none⟩) l.length c ∧ l.length ≤ c ∧ B ≤ g ∧ g < w.heap.size ∧ c ≤ maxLen := by
  rcases h.2 with ⟨_, h1⟩ | ⟨g, cap, cur, rfl, hB, hg, hcap, hmax, hcur, htk⟩
  · omega
  · refine ⟨g, cap, rfl, hcap, hB, ?_, hmax⟩
    rcases Nat.lt_or_ge g w.heap.size with hlt | hge
    · exact hlt
    · rw [Array.getElem?_eq_none hge] at hg; cases hg
/-- The string of bytes. -/
def strOf (l : List Nat) : ByteArray := ⟨(l.map UInt8.ofNat).toArray⟩
/-- The bytes of a string. -/
def bl (s : ByteArray) : List Nat := s.data.toList.map UInt8.toNat
theorem bl_strOf {l : List Nat} (h : ∀ u ∈ l, u < 256) : bl (strOf l) = l := by
  unfold bl strOf
  simp only [List.map_map]
  conv => rhs; rw [← List.map_id l]
  refine List.map_congr_left (fun u hu => ?_)
  have := h u hu
  simp
  omega
theorem bl_len (s : ByteArray) : (bl s).length = s.size := by unfold bl; rw [List.length_map]; rfl
theorem bl_inj {s t : ByteArray} (h : bl s = bl t) : s = t := by
  apply ByteArray.ext
  apply Array.toList_inj.1
  unfold bl at h
  exact (List.map_inj_right (fun a b hab => UInt8.toNat_inj.1 hab)).1 h
theorem bl_get (s : ByteArray) (k : Nat) (h : k < s.size) : (bl s)[k]? = some (s[k]'h).toNat := by
  unfold bl
  rw [List.getElem?_map]
  have : s.data.toList[k]? = some (s[k]'h) := by rw [Array.getElem?_toList, Array.getElem?_eq_getElem (by exact h)]; rfl
  rw [this]; rfl
theorem bl_drop (s : ByteArray) (k : Nat) : bl (s.extract k s.size) = (bl s).drop k := by
  unfold bl
  rw [← List.map_drop]
  congr 1
  simp only [ByteArray.data_extract, Array.toList_extract, List.extract]
  exact List.take_of_length_le (by simp)
theorem foldl_push8 (l : List Nat) (s : ByteArray) : (l.map fun b : Nat => (b : Int)).foldl (fun r n => r.push (UInt8.ofNat n.toNat)) s = ⟨s.data ++ (l.map UInt8.ofNat).toArray⟩ := by
  induction l generalizing s with
  | nil => simp
  | cons b r ih =>
    simp only [List.map_cons, List.foldl_cons, ih]
    apply ByteArray.ext
    simp [ByteArray.push]
set_option maxRecDepth 100000 in
/-- The string of owned bytes. -/
theorem own8_string {B : Nat} {l : List Nat} {v : Value} {w : World} (h : Own8 B l v w) : (convert 45 9 v).run Tryd.prog w = .ok (.string (strOf l)) w := by
  rcases h.2 with ⟨rfl, hn⟩ | ⟨g, cap, cur, rfl, hB, hg, hcap, hmax, hcur, htk⟩
  · have : l = [] := List.eq_nil_of_length_eq_zero hn
    subst this
    rfl
  · have hc := World.ownsRow.cells (g := g) h rfl
    rw [run_convert_bytes_string w 45 9 5 _ _ _ Tryd.underlying45 Tryd.underlying5 Tryd.underlying9]
    have hl := run_loadCells_list (P := Tryd.prog) w ⟨g, 0, none⟩ (l.map fun u => Value.int .u8 (u : Nat)) hc
    rw [List.length_map] at hl
    rw [run_bytesToString w ⟨g, 0, none⟩ l.length cap (l.map fun b : Nat => (b : Int)) (by rw [hl]; simp [Function.comp_def])]
    rw [foldl_push8]
    simp [strOf]
end Go.Proofs.YtlabblkonkhmgaaDoor
