/-
  Slices of words that come in as arguments.
-/
import Derived.Test.YtlabblkonkhmgaaDoorRows
import Derived.Test.YtlabblkonkhmgaaDoorMul
import Derived.ProofKit
import Derived.OpenShut
import Derived.SizedLaws
namespace Go.Proofs.YtlabblkonkhmgaaDoor
open Go.ChangeShapes Go.WideShapes Go.ChangeAt Go.RowKit
theorem own : ownKnob Tryd.prog.godebug = none := by kernel_rfl
theorem laidOut : laidOutB Tryd.prog = true := by kernel_rfl
theorem bytesW : Tryd.prog.bytesOf 42 = 4 := by kernel_rfl
theorem words_open {H : Type} {enc : TypeId × Value → H} {W : World} {a : Option Addr} {len cap : Nat} {d : DataW H} {p : List MemPlace}
    (h : DataW.Trod enc Tryd.prog W 0 (fun _ => true) true 22 (.slice a len cap) d p) :
    ∃ ls : List Nat, ls.length = len ∧ len ≤ cap ∧ RW W W.heap.size a ls ∧ (len = 0 ∨ ∃ es sp, d = .slice es sp ∧ es.length = len) := by
  obtain ⟨fuel, hf⟩ := h
  rcases open_ints Tryd.underlying22 Tryd.underlying42 (by kernel_rfl) hf with ⟨hcs, _⟩ | ⟨x, l, c, zs, hcs, _, hl, hm, hz, hx, hcell, hwz⟩
  · simp [Value.cells] at hcs
    obtain ⟨rfl, rfl, rfl⟩ := hcs
    exact ⟨[], rfl, Nat.le_refl _, RW.nil _ _ _, .inl rfl⟩
  · simp [Value.cells] at hcs
    obtain ⟨rfl, rfl, rfl⟩ := hcs
    simp at hz
    by_cases h0 : len = 0
    · subst h0
      exact ⟨[], rfl, hl, RW.nil _ _ _, .inl rfl⟩
    · obtain ⟨b, off, spot⟩ := x
      have hc := hcell 0 (by omega)
      have hspot : spot = none := by simpa [Addr.add] using World.cell?_spot hc
      subst hspot
      have hb : b < W.heap.size := by
        rcases Nat.lt_or_ge b W.heap.size with h' | h'
        · exact h'
        · simp [World.cell?, Addr.add, Array.getElem?_eq_none h'] at hc
      have hwf : ∀ n ∈ zs, 0 ≤ n ∧ n < 4294967296 := by
        intro n hn
        have := hwz n hn
        have e1 : IntKind.u32.min = 0 := rfl
        have e2 : IntKind.u32.max = 4294967295 := rfl
        simp [Lit.wf] at this
        omega
      refine ⟨(zs.take len).map Int.toNat, by simp; omega, hl, ⟨?_, fun _ => ⟨b, off, rfl, hb, ?_⟩⟩, .inr ⟨lits .u32 (zs.take len), lits .u32 (zs.drop len), by simpa using congrArg Prod.fst hx, by simp [lits]; omega⟩⟩
      · intro u hu
        obtain ⟨z, hz1, rfl⟩ := List.mem_map.1 hu
        have := hwf z (List.mem_of_mem_take hz1)
        omega
      · intro k u hk
        rw [List.getElem?_map] at hk
        obtain ⟨z, hz1, rfl⟩ := Option.map_eq_some_iff.1 hk
        have hk2 : k < len := by
          have := (List.getElem?_eq_some_iff.1 hz1).1
          simp at this
          omega
        rw [List.getElem?_take_of_lt hk2] at hz1
        have hk3 := (List.getElem?_eq_some_iff.1 hz1).1
        have h1 := hcell k hk3
        have hzz : zs.getD k 0 = z := by rw [List.getD_eq_getElem?_getD, hz1]; rfl
        rw [hzz] at h1
        have hpos := (hwf z (List.mem_of_getElem? hz1)).1
        have e : ((z.toNat : Nat) : Int) = z := by omega
        rw [e]
        by_cases hk0 : k = 0
        · subst hk0; simpa [Addr.add] using h1
        · simpa [Addr.add, hk0] using h1
/-- A slice of words that came in has at most 2^45 - 1024 words. -/
theorem words_reach {H : Type} {ts : List TypeId} {ds : List (DataW H)} (h : (DataW.weightsEach Tryd.prog ts ds).all (· ≤ reachBytes) = true) {j : Nat} {d : DataW H} {len : Nat} (ht : ts[j]? = some 22) (hd : ds[j]? = some d)
    (hs : len = 0 ∨ ∃ es sp, d = .slice es sp ∧ es.length = len) : len ≤ 35184372087808 := by
  rcases hs with rfl | ⟨es, sp, rfl, rfl⟩
  · omega
  · have := sized_slice h ht hd Tryd.underlying22
    rw [bytesW] at this
    have e : reachBytes = 140737488351232 := rfl
    rw [e] at this
    omega
end Go.Proofs.YtlabblkonkhmgaaDoor
