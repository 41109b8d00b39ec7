/-
  One more object without properties in a heap.
-/
import Derived.Test.YtmlgjijjkikkhaaGreatDoorO7
import Derived.Lib.OthersKept
namespace Go.Proofs.YtmlgjijjkikkhaaGreatDoor
open Go.RowKit
attribute [local go_sem] stF neqM eqS
/-- What stays of a heap that grows: all ahead of its block, and whatever is no row of objects' addresses. -/
structure Kh (hb : Nat) (w w' : World) : Prop where
  b : Below hb w w'
  oth : Lib.OthersKept 116 (some hb) w w'
theorem Kh.of {hb : Nat} {w w' : World} (h : Below w.heap.size w w') (hl : hb ≤ w.heap.size) : Kh hb w w' :=
  ⟨h.mono hl, fun k _ hk _ _ => (h.block k (Array.getElem?_eq_some_iff.1 hk).1).trans hk⟩
theorem Kh.trans {hb : Nat} {a b c : World} (h : Kh hb a b) (k : Kh hb b c) : Kh hb a c := ⟨h.b.trans k.b, h.oth.trans k.oth⟩
theorem Kh.ey {hb : Nat} {w w' : World} (h : Ey w.heap.size hb w w') (hl : hb ≤ w.heap.size) : Kh hb w w' :=
  ⟨⟨h.os, h.tape, h.output, h.size, fun k hk => h.block k (by omega) (by omega)⟩, fun k _ hk hn _ => (h.block k (Array.getElem?_eq_some_iff.1 hk).1 (fun e => hn (by rw [e]))).trans hk⟩
theorem HobE.kh {W W' : World} {hb t : Nat} {x : Ob} {sP sB : Value} (h : HobE W t x sP sB) (k : Kh hb W W') (hn : t ≠ hb) : HobE W' t x sP sB := by
  obtain ⟨q, h⟩ := h
  exact ⟨q, k.oth t _ h (by simpa using hn) (by intro c fz e; cases e)⟩
theorem info_hop : (Tryz.prog.info? 116).map (fun i => (i.zero, i.size, i.bytes)) = some (some (.pointer none), 1, 8) := by kernel_rfl
/-- What keep asks of an object without properties. -/
structure May0 (x : Ob) (ahead : Nat) : Prop where
  c1 : 1 ≤ x.oc
  c2 : x.oc ≤ 10
  h3 : x.oc ≠ 3
  h4 : x.oc ≠ 4
  p1 : -1 ≤ x.op
  p2 : x.op < ahead
  n1 : 0 ≤ x.on
  n2 : 0 ≤ x.od
  n3 : 0 ≤ x.os
  hk : x.pr.vk = primK x.oc
  hm : mayB x.pr = true
  hs : x.pr.vs.size ≤ maxLen
set_option maxRecDepth 100000 in
set_option maxHeartbeats 2000000 in
theorem alloc_e {hb room used : Nat} {l : List Nat} {x : Ob} {w : World} (h : Hp hb room used l w) (hu : used + 1 ≤ room) (hx : May0 x l.length) :
    Calls Tryz.prog 49 #[.pointer (some ⟨hb, 0, none⟩), .agg (celO x (.slice none 0 0) (.slice none 0 0))] w fun e w' => ∃ t, e = .returned (.tuple #[.int .i64 l.length, .int .i64 0]) ∧ Hp hb room (used + 1) (l ++ [t]) w' ∧ HobE w' t x (.slice none 0 0) (.slice none 0 0) ∧ w.heap.size ≤ t ∧ Kh hb w w' := by
  obtain ⟨i0, hi, hz0, hz1, hz2⟩ := info_parts info_hop
  have C1 := Lib.hid (fun W (h : Hp hb room used l W) => len_hp h)
  have C2 := Lib.hid (fun W => keep_e (x := x) (ahead := l.length) (w := W) hx.c1 hx.c2 hx.h3 hx.h4 hx.p1 hx.p2 hx.n1 hx.n2 hx.n3 hx.hk hx.hm hx.hs)
  have C3 := Lib.hid (fun W (h : Hp hb room used l W) => show Calls Tryz.prog 61 #[.pointer (some ⟨hb, 0, none⟩), .int .i64 1] W fun e w' => e = .returned (.bool true) ∧ Hp hb room (used + 1) l w' ∧ Ey W.heap.size hb W w' from take_hp 1 h hu)
  have HL := Lib.hid (show hb < w.heap.size ∧ l.length ≤ 16777216 ∧ l.length ≤ used by have := h.lt; have := h.le; omega)
  clear hu hx
  go_enter Tryz.func49, Tryz.ntmps49
  go_upto_region 1 with fail
  obtain ⟨W1, hW1⟩ : ∃ W1, w.alloc (.cells (celO x (.slice none 0 0) (.slice none 0 0)) 70) = W1 := ⟨_, rfl⟩
  have hso := SO.new hW1
  have H1 := Lib.hid (h.on (show Below w.heap.size w W1 from hso.b))
  have S1 := Lib.hid hso
  rw [hW1]
  clear hW1 h hso
  go_wp2_with fail
  refine (C1.out _ H1.out).mono ?_
  rintro e w' ⟨rfl, rfl⟩
  clear C1
  go_wp2_with (refine ldO (k := 12) S1.out.k rfl (by kernel_rfl) rfl rfl ?_)
  refine (C2.out _).mono ?_
  rintro e w2 ⟨⟨t, rfl, ht, htl⟩, b2⟩
  have h2 := H1.out.on b2
  have H2 := Lib.hid h2
  have S2 := Lib.hid (S1.out.on b2)
  have T2 := Lib.hid ht
  have HT := Lib.hid (show w.heap.size < t by have := (Array.getElem?_eq_some_iff.1 S1.out.k).1; omega)
  obtain ⟨c0, -, -, -⟩ := h2.cells
  have d3 : w2.cell? ⟨w.heap.size, 3, none⟩ = some (.slice none 0 0) := S2.out.cell rfl
  clear C2 ht htl b2 H1 S1 h2
  go_wp2_with fail
  refine (C3.out _ H2.out).mono ?_
  rintro e w3 ⟨rfl, h3, y3⟩
  have K3 := Lib.hid ((Kh.of (show Below w.heap.size w w2 from S2.out.b) (by have := HL.out; omega)).trans (Kh.ey y3 (by have := H2.out.lt; omega)))
  have T3 := Lib.hid (T2.out.ey y3 (by have := HT.out; have := HL.out; omega))
  have HS := Lib.hid (show t < w3.heap.size from T3.out.lt)
  obtain ⟨⟨v, hv, hown⟩, hle⟩ := h3
  have d1 : w3.cell? ⟨hb, 1, none⟩ = some v := (cell_of_row w3 hb 1 _ _ _ hv).trans rfl
  have HV := Lib.hid hv
  have HLE := Lib.hid hle
  clear C3 y3 H2 S2 T2 c0 d3 hv hle
  have hlen : l.length < maxLen := by have := HL.out; unfold maxLen; omega
  have hby : (l.length + 1) * 8 ≤ 140737488355328 := by have := HL.out; omega
  have hba : hb + 1 ≤ w3.heap.size := by have := HS.out; have := HT.out; have := HL.out; omega
  have HLN := Lib.hid hlen
  have HBY := Lib.hid hby
  have HBA := Lib.hid hba
  clear hlen hby hba
  go_wp2_with (at_builtin; refine wpList_append_own _ rfl _ _ 105 rfl (hb + 1) 116 i0 (.pointer none) 1 8 Tryz.underlying105 hi hz0 hz1 hz2 rfl (by decide) _ _ _ rfl (hown.alloc _) ⟨w3.heap.size, 0, none⟩ 1 1 [.pointer (some ⟨t, 0, none⟩)] rfl rfl (cell_one_new _ _ _) (by simp [Value.oneCell']) (by have := HLN.out; simp; omega) (by have := HBY.out; simp; omega) (by have := HBA.out; simp; omega) ?_; intro v' w4 hown4 hgrow4 hnil4; refine Hid.out ?_)
  have hne : some hb ≠ v.ownBlock := fun e => by have := (hown.lt hb e.symm).1; omega
  have hbl : hb < w3.heap.size := by have := HBA.out; omega
  have r4 : w4.heap[hb]? = some (.cells (celHp v room (used + 1 : Nat)) 107 (0, 0)) := (hgrow4.block hb (by simp; omega) hne).trans (((below_a1 w3 _).block hb hbl).trans HV.out)
  have d1 : w4.cell? ⟨hb, 1, none⟩ = some v := (cell_of_row w4 hb 1 _ _ _ r4).trans rfl
  have f1 := frozen_of_row w4 hb 1 _ _ r4
  have hs4 : w3.heap.size ≤ w4.heap.size := by have := hgrow4.size; simp at this; omega
  have K4 := Lib.hid (show Kh hb w3 (w4.setCell ⟨hb, 1, none⟩ v') from ⟨⟨hgrow4.os, hgrow4.tape, hgrow4.output, by simp [World.setCell]; exact hs4, fun k hk => (Below.heap_setCell _ _ _ _ (by show k ≠ hb; omega)).trans ((hgrow4.block k (by simp; omega) (fun e => by have := (hown.lt k e.symm).1; omega)).trans ((below_a1 w3 _).block k (by omega)))⟩, fun k o hk0 hb0 ho => by
    have hk3 := (Array.getElem?_eq_some_iff.1 hk0).1
    refine (Below.heap_setCell _ _ _ _ (fun e => hb0 (by rw [e]))).trans ?_
    rw [hgrow4.block k (by simp; omega) (fun e => ?_)]
    · exact ((below_a1 w3 _).block k hk3).trans hk0
    · have e : some k = v.ownBlock := e
      rcases hown.2 with ⟨hv, _⟩ | ⟨q, cap, cur, hv, _, hq, _⟩
      · rw [hv] at e; simp [Value.ownBlock] at e
      · rw [hv] at e
        simp [Value.ownBlock] at e
        subst e
        rw [hq] at hk0
        exact ho _ _ (Option.some.inj hk0).symm⟩)
  have HN4 := Lib.hid (show Hp hb room (used + 1) (l ++ [t]) (w4.setCell ⟨hb, 1, none⟩ v') from ⟨⟨v', (heap_setCell_same w4 hb 1 _ 107 _ r4).trans rfl, by
    have hk := hown4.kept (row := some hb) (w' := w4.setCell ⟨hb, 1, none⟩ v') ⟨rfl, rfl, rfl, by simp [World.setCell], fun j _ hj => Below.heap_setCell _ _ _ _ (fun e => hj (by simp [e]))⟩ (Or.inr (fun e => by have := (hown4.lt hb e).1; omega))
    simpa using hk⟩, by have := HLE.out; have := HL.out; simp; omega⟩)
  obtain ⟨A4, c4, rfl⟩ : ∃ A4 c4, v' = .slice A4 (l.length + 1) c4 := by
    rcases hown4.2 with ⟨_, h0⟩ | ⟨g, cap, cur, h0, _⟩
    · omega
    · exact ⟨_, _, h0⟩
  clear hown hown4 hgrow4 hnil4 r4 hne hbl hs4 HV HLE HLN HBY HBA
  refine Lib.hid ?_
  go_wp2
  go_ret2
  exact ⟨t, rfl, HN4.out, T3.out.kh K4.out (by have := HT.out; have := HL.out; omega), by have := HT.out; omega, K3.out.trans K4.out⟩
end Go.Proofs.YtmlgjijjkikkhaaGreatDoor
