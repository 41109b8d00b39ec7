/-
  Owned bytes turned into a string; Wide and Make of the program and of the reference.
-/
import Derived.Test.YthnkidncjkhndaaDoorAwake
import Derived.Laws.BytesString
import Derived.Laws.Cells
namespace Go.Proofs.YthnkidncjkhndaaDoor
open Go.RowKit
theorem foldl_push (ns : List UInt8) (s : ByteArray) : (ns.map fun b => (b.toNat : Int)).foldl (fun r n => r.push (UInt8.ofNat n.toNat)) s = ⟨s.data ++ ns.toArray⟩ := by
  induction ns generalizing s with
  | nil => simp
  | cons b r ih =>
    simp only [List.map_cons, List.foldl_cons, ih]
    apply ByteArray.ext
    simp [ByteArray.push]
/-- The string of owned bytes. -/
theorem own_string {B : Nat} {l : List UInt8} {v : Value} {w : World} (h : Own B l v w) : (convert 52 9 v).run Tryd.prog w = .ok (.string ⟨l.toArray⟩) w := by
  rcases h.2 with ⟨rfl, hn⟩ | ⟨g, cap, cur, rfl, hB, hg, hcap, hmax, hcur, htk⟩
  · have : l = [] := List.eq_nil_of_length_eq_zero hn
    subst this
    rfl
  · have hc := h.cells (g := g) rfl
    rw [run_convert_bytes_string w 52 9 5 _ _ _ Tryd.underlying52 Tryd.underlying5 Tryd.underlying9]
    have hl := run_loadCells_list (P := Tryd.prog) w ⟨g, 0, none⟩ (Lib.byteCells l) hc
    rw [Lib.byteCells_length] at hl
    rw [run_bytesToString w ⟨g, 0, none⟩ l.length cap (l.map fun b => (b.toNat : Int)) (by rw [hl]; simp [Lib.byteCells, Function.comp_def])]
    rw [foldl_push]
    simp
theorem own_below {B : Nat} {l : List UInt8} {v : Value} {w w' : World} (h : Own B l v w) (hb : Below w.heap.size w w') : Own B l v w' := by
  refine h.kept (row := none) ⟨hb.os, hb.tape, hb.output, hb.size, fun k hk _ => hb.block k hk⟩ ?_
  cases v.ownBlock <;> simp
theorem own_drewN {B : Nat} {l : List UInt8} {v : Value} {w : World} (h : Own B l v w) (n : Nat) : Own B l v (w.drewN n) := h
end Go.Proofs.YthnkidncjkhndaaDoor
