/-
  Calls within calls are at most so many; a native is registered.
-/
import Derived.Test.YtmlgjijjkikkhaaGreatDoorM13
import Derived.Great.BuildSlice
namespace Go.Proofs.YtmlgjijjkikkhaaGreatDoor
open Go.RowKit
attribute [local go_sem] stF neqM eqS neqNat neqBody neqBody0
theorem call_deep (m cb fb t room used : Nat) : ∀ r, CallD m cb fb t room used r := by
  intro r
  induction r with
  | zero =>
    intro W x n h hr hn
    refine Call_m (i := 0) (P := fun v _ => v = .slice none 0 0) (Or.inl rfl) h.lt (RD.stab h.cm) (fun W1 b1 => (clone_nil W1).mono ?_) (fun W2 B k d b2 hP => ?_)
    · rintro e w' ⟨rfl, rfl⟩
      exact ⟨none, 0, 0, rfl, Below.refl _ _, rfl⟩
    · cases hP
      have h2 : DS W2 m cb fb t x n room used := h.to (Ez.of b2) (h.M.on b2) ((b2.block _ (h.lt cb (Or.inr rfl))).trans h.C) h.ov rfl rfl h.b
      refine call_m h2.M h2.ov h2.P (i := 0) rfl h2.T rfl (Or.inl rfl) h2.lt (RD.stab h.cm) (fun W3 q b3 => ?_)
      have h3 : DS W3 m cb fb t x n room used := h2.to (Ez.of b3) (h2.M.on b3) ((b3.block _ (h2.lt cb (Or.inr rfl))).trans h2.C) h2.ov rfl rfl h2.b
      by_cases hl : x.left = 0
      · refine (run_no0 h3.M h3.ov hl).mono ?_
        rintro e w' ⟨rfl, m4, y4⟩
        exact ⟨5, valU, ⟨#[]⟩, { x with left := 0, ov := true }, rfl, ⟨rfl, rfl, rfl, rfl, rfl, (y4.block _ (h3.lt cb (Or.inr rfl)) h.cm).trans h3.C⟩, m4, Ez.ey y4 (Or.inl rfl)⟩
      · have hb := h.b
        have hd : x.l3 ≤ x.calls + x.nest := by
          split at hr <;> omega
        refine (run_no1 h3.M h3.ov (by omega) (by omega) (by omega) hd).mono ?_
        rintro e w' ⟨rfl, m4, y4⟩
        exact ⟨5, valU, ⟨#[]⟩, { x with left := x.left - 1, ov := true }, rfl, ⟨rfl, rfl, rfl, rfl, rfl, (y4.block _ (h3.lt cb (Or.inr rfl)) h.cm).trans h3.C⟩, m4, Ez.ey y4 (Or.inl rfl)⟩
  | succ r ih =>
    intro W x n h hr hn
    refine Call_m (i := 0) (P := fun v _ => v = .slice none 0 0) (Or.inl rfl) h.lt (RD.stab h.cm) (fun W1 b1 => (clone_nil W1).mono ?_) (fun W2 B k d b2 hP => ?_)
    · rintro e w' ⟨rfl, rfl⟩
      exact ⟨none, 0, 0, rfl, Below.refl _ _, rfl⟩
    · cases hP
      have h2 : DS W2 m cb fb t x n room used := h.to (Ez.of b2) (h.M.on b2) ((b2.block _ (h.lt cb (Or.inr rfl))).trans h.C) h.ov rfl rfl h.b
      refine call_m h2.M h2.ov h2.P (i := 0) rfl h2.T rfl (Or.inl rfl) h2.lt (RD.stab h.cm) (fun W3 q b3 => ?_)
      have h3 : DS W3 m cb fb t x n room used := h2.to (Ez.of b3) (h2.M.on b3) ((b3.block _ (h2.lt cb (Or.inr rfl))).trans h2.C) h2.ov rfl rfl h2.b
      have hb := h.b
      have hl : 1 ≤ x.left := by split at hr <;> omega
      have hd : ¬ (x.l3 ≤ x.calls + x.nest) := by split at hr <;> omega
      refine (run_ov (R := RD cb (x.calls + 1) (n + 1 + r)) h3.M h3.ov (Or.inl rfl) h3.lt (RD.stab h.cm) (fun _ _ _ _ _ r => r.2.2.2.1) (by omega) (by omega) (by omega) hd (fun W4 y4 m4 => ?_)).mono ?_
      · have h4 : DS W4 m cb fb t { x with left := x.left - 1 } n room used := h3.to (Ez.ey y4 (Or.inl rfl)) m4 ((y4.block _ (h3.lt cb (Or.inr rfl)) h.cm).trans h3.C) h3.ov rfl rfl (by show x.nest = 0 ∧ 0 ≤ x.calls ∧ x.calls ≤ x.l3 ∧ x.l3 ≤ 255 ∧ 0 ≤ x.left - 1 ∧ x.left - 1 ≤ 255; omega)
        refine enter_nat m4 h4.N rfl (Or.inl rfl) h4.lt (RD.stab h.cm) (show 0 ≤ x.calls ∧ x.calls ≤ 1048575 by omega) (fun W5 y5 m5 => ?_)
        have h5 : DS W5 m cb fb t { x with left := x.left - 1, calls := x.calls + 1 } n room used := h4.to (Ez.ey y5 (Or.inl rfl)) m5 ((y5.block _ (h4.lt cb (Or.inr rfl)) h.cm).trans h4.C) h3.ov rfl rfl (by show x.nest = 0 ∧ 0 ≤ x.calls + 1 ∧ x.calls + 1 ≤ x.l3 ∧ x.l3 ≤ 255 ∧ 0 ≤ x.left - 1 ∧ x.left - 1 ≤ 255; omega)
        refine deep1 ih h5 ?_ (by omega)
        show (if x.l3 - (x.calls + 1) ≤ x.left - 1 then (x.l3 - (x.calls + 1)).toNat else (x.left - 1).toNat) = r
        split at hr <;> split <;> omega
      · rintro e w' ho
        refine ho.imp ?_
        rintro k v s x2 w1 ⟨rfl, rfl, rfl, k1, v1, s1, x', ⟨-, -, -, r4, r5, r6⟩, rfl⟩
        refine ⟨rfl, rfl, rfl, rfl, ?_, ?_⟩
        · show x'.calls - 1 = x.calls
          omega
        · rw [r6, show n + 1 + r = n + (r + 1) by omega]
theorem info_nat : (Tryz.prog.info? 99).map (fun i => (i.zero, i.size, i.bytes)) = some (some .nilFunc, 1, 8) := by kernel_rfl
/-- The first native is registered. -/
def RegP (w : World) (m : Nat) (x : Mx) (fv : Value) (e : Ending) (w' : World) : Prop := e = .returned (.int .i64 1) ∧ (∃ v, Mc w' m { x with nats := v } ∧ NatR w' v fv) ∧ Ey w.heap.size m w w'
set_option maxRecDepth 100000 in
set_option maxHeartbeats 4000000 in
theorem reg_m {w : World} {m : Nat} {x : Mx} {F : Fn} {c1 c2 : Value} (h : Mc w m x) (hn : x.nats = .slice none 0 0) :
    Calls Tryz.prog 21 #[.pointer (some ⟨m, 0, none⟩), .func F #[] #[c1, c2]] w (RegP w m x (.func F #[] #[c1, c2])) := by
  obtain ⟨i0, hi, hz0, hz1, hz2⟩ := info_parts info_nat
  have c25 : w.cell? ⟨m, 25, none⟩ = some (.slice none 0 0) := hn ▸ h.cell rfl
  have C1 := Lib.hid (there_m h)
  have H := Lib.hid h
  have hl := h.lt
  have HL := Lib.hid hl
  clear h hn
  go_enter Tryz.func21, Tryz.ntmps21
  go_wp2_with fail
  refine C1.out.mono ?_
  rintro e w' ⟨rfl, rfl⟩
  clear C1
  have hown : (w.alloc (.cells #[.func F #[] #[c1, c2]] 99)).ownsRow w.heap.size 99 1 (.slice none 0 0) 0 [] := ⟨rfl, .inl ⟨rfl, rfl⟩⟩
  go_wp2_with (at_builtin; refine wpList_append_own _ rfl _ _ 88 rfl w.heap.size 99 i0 .nilFunc 1 8 Tryz.underlying88 hi hz0 hz1 hz2 rfl (by decide) _ 0 [] rfl hown ⟨w.heap.size, 0, none⟩ 1 1 [.func F #[] #[c1, c2]] rfl rfl (cell_one_new _ _ _) (by simp [Value.oneCell']) (by decide) (by decide) (by simp) ?_; intro v' w4 hown4 hgrow4 hnil4; refine Hid.out ?_)
  have b4 : Below w.heap.size w w4 := (below_a1 w _).trans ⟨hgrow4.os, hgrow4.tape, hgrow4.output, hgrow4.size, fun k hk => hgrow4.block k (by simp; omega) (fun e => by cases e)⟩
  obtain ⟨g, cap, cur, rfl, hg, hg0, hcap⟩ : NatR w4 v' (.func F #[] #[c1, c2]) := by
    rcases hown4.2 with ⟨e, h0⟩ | ⟨g, cap, cur, e, _, hg, hcap, _, _, ht⟩
    · cases h0
    · refine ⟨g, cap, cur, e, hg, ?_, by omega⟩
      have h1 : (cur.toList.take 1)[0]? = some (.func F #[] #[c1, c2]) := by
        rw [show (1 : Nat) = (0 + 1) * 1 from rfl, ht]; rfl
      rw [List.getElem?_take_of_lt (by omega)] at h1
      simpa using h1
  have m4 := H.out.on b4
  have c25 : w4.cell? ⟨m, 25, none⟩ = some (.slice none 0 0) := (b4.cell (p := ⟨m, 25, none⟩) hl).trans c25
  have f25 := m4.frozen 25
  have m5 := m4.set 25 (.slice (some ⟨g, 0, none⟩) 1 cap) { x with nats := .slice (some ⟨g, 0, none⟩) 1 cap } rfl
  have y5 := ey_set w4 m 25 (.slice (some ⟨g, 0, none⟩) 1 cap)
  have n5 : NatR (w4.setCell ⟨m, 25, none⟩ (.slice (some ⟨g, 0, none⟩) 1 cap)) (.slice (some ⟨g, 0, none⟩) 1 cap) (.func F #[] #[c1, c2]) :=
    ⟨g, cap, cur, rfl, (y5.block _ (Array.getElem?_eq_some_iff.1 hg).1 (fun e => by rw [e, show w4.heap[m]? = _ from m4] at hg; cases hg)).trans hg, hg0, hcap⟩
  have c26 : (w4.setCell ⟨m, 25, none⟩ (.slice (some ⟨g, 0, none⟩) 1 cap)).cell? ⟨m, 25, none⟩ = some (.slice (some ⟨g, 0, none⟩) 1 cap) := m5.cell rfl
  have M5 := Lib.hid m5
  have N5 := Lib.hid n5
  have Y5 := Lib.hid ((Ey.of b4 : Ey w.heap.size m w w4).trans (y5.mono b4.size))
  clear hown hown4 hgrow4 hnil4 b4 hg hg0 hcap m4 m5 y5 n5
  refine Lib.hid ?_
  go_wp2
  go_ret
  exact ⟨rfl, ⟨_, M5.out, N5.out⟩, Y5.out⟩
end Go.Proofs.YtmlgjijjkikkhaaGreatDoor
