/-
  Slices of units among a law's arguments: what their reading gives a walk, and their bulk.
-/
import Derived.Test.YthnkidncjkhndaaDoorFrame
import Derived.Test.YthnkidncjkhndaaDoorUnitLaw
namespace Go.Proofs.YthnkidncjkhndaaDoor
open Go.ChangeShapes Go.WideShapes Go.ChangeAt Go.RowKit
theorem laidOut : laidOutB Tryd.prog = true := by kernel_rfl
theorem bulk_one {H : Type} (d : DataW H) : 1 ≤ Rows.uptoBulk d := by
  cases d with
  | lit l => cases l <;> simp [Rows.uptoBulk]
  | _ => simp [Rows.uptoBulk]
theorem bulk_len {H : Type} (l : List (DataW H)) : l.length ≤ Rows.uptoBulkAll l := by
  induction l with
  | nil => simp [Rows.uptoBulkAll]
  | cons x r ih => have := bulk_one x; simp only [Rows.uptoBulkAll, List.length_cons]; omega
theorem units_open {H : Type} {enc : TypeId × Value → H} {W : World} {a : Option Addr} {len cap : Nat} {d : DataW H} {p : List MemPlace}
    (h : DataW.Trod enc Tryd.prog W 0 (fun _ => true) true 28 (.slice a len cap) d p) :
    len = 0 ∨ ∃ b off ls, a = some ⟨b, off, none⟩ ∧ ls.length = len ∧ (∀ u ∈ ls, u < 65536) ∧ b < W.heap.size ∧ Cells16 ls b off W ∧ len ≤ Rows.uptoBulk d := by
  obtain ⟨fuel, hf⟩ := h
  rcases open_ints Tryd.underlying28 Tryd.underlying29 (by kernel_rfl) hf with ⟨hcs, _⟩ | ⟨x, l, c, zs, hcs, _, hl, hm, hz, hx, hcell, hwz⟩
  · simp [Value.cells] at hcs
    exact .inl hcs.2.1
  · simp [Value.cells] at hcs
    obtain ⟨rfl, rfl, rfl⟩ := hcs
    simp at hz
    by_cases h0 : len = 0
    · exact .inl h0
    · right
      obtain ⟨b, off, spot⟩ := x
      have hc := hcell 0 (by omega)
      have hspot : spot = none := by simpa [Addr.add] using World.cell?_spot hc
      subst hspot
      have hb : b < W.heap.size := by
        rcases Nat.lt_or_ge b W.heap.size with h' | h'
        · exact h'
        · simp [World.cell?, Addr.add, Array.getElem?_eq_none h'] at hc
      have hwf : ∀ n ∈ zs, 0 ≤ n ∧ n < 65536 := by
        intro n hn
        have := hwz n hn
        have e1 : IntKind.u16.min = 0 := rfl
        have e2 : IntKind.u16.max = 65535 := rfl
        simp [Lit.wf] at this
        omega
      refine ⟨b, off, (zs.take len).map Int.toNat, rfl, by simp; omega, ?_, hb, ?_, ?_⟩
      · intro u hu
        obtain ⟨z, hz1, rfl⟩ := List.mem_map.1 hu
        have := hwf z (List.mem_of_mem_take hz1)
        omega
      · intro k u hk
        rw [List.getElem?_map] at hk
        obtain ⟨z, hz1, rfl⟩ := Option.map_eq_some_iff.1 hk
        have hk2 : k < len := by
          have := (List.getElem?_eq_some_iff.1 hz1).1
          simp at this
          omega
        rw [List.getElem?_take_of_lt hk2] at hz1
        have hk3 := (List.getElem?_eq_some_iff.1 hz1).1
        have h1 := hcell k hk3
        have hzz : zs.getD k 0 = z := by rw [List.getD_eq_getElem?_getD, hz1]; rfl
        rw [hzz] at h1
        have hpos := (hwf z (List.mem_of_getElem? hz1)).1
        have e : ((z.toNat : Nat) : Int) = z := by omega
        rw [e]
        by_cases hk0 : k = 0
        · subst hk0; simpa [Addr.add] using h1
        · simpa [Addr.add, hk0] using h1
      · have hd : d = .slice (lits .u16 (zs.take len)) (lits .u16 (zs.drop len)) := by simpa using congrArg Prod.fst hx
        rw [hd]
        have h1 := bulk_len (lits (H := H) .u16 (zs.take len))
        simp only [Rows.uptoBulk]
        simp [lits] at h1 ⊢
        omega
end Go.Proofs.YthnkidncjkhndaaDoor
