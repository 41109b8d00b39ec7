/-
  Values, one behind the other, in a slice; a copy of them.
-/
import Derived.Test.YtmlgjijjkikkhaaGreatDoorN12
import Derived.Laws.AppendOwn
namespace Go.Proofs.YtmlgjijjkikkhaaGreatDoor
open Go.RowKit
attribute [local go_sem] stF neqM eqS
/-- A value's cells from a place on. -/
def CelAt (W : World) (b o : Nat) (v : Val) : Prop := W.cell? ⟨b, o, none⟩ = some (.int .i64 v.vk) ∧ W.cell? ⟨b, o + 1, none⟩ = some (.bool v.vb) ∧ W.cell? ⟨b, o + 2, none⟩ = some (.float .f64 v.vn) ∧ W.cell? ⟨b, o + 3, none⟩ = some (.string v.vs) ∧ W.cell? ⟨b, o + 4, none⟩ = some (.int .i64 v.vo)
theorem CelAt.on {W W' : World} {b o n : Nat} {v : Val} (h : CelAt W b o v) (hb : Below n W W') (hl : b < n) : CelAt W' b o v := by
  have e : ∀ k, W'.cell? ⟨b, k, none⟩ = W.cell? ⟨b, k, none⟩ := fun k => World.cell?_of_block (hb.block b hl)
  unfold CelAt
  simp only [e]
  exact h
/-- Values, one behind the other, in a slice. -/
structure ValsAt (n : Nat) (W : World) (l : List Val) (A : Option Addr) (c : Nat) : Prop where
  le : l.length ≤ c
  mx : l.length ≤ 4194304
  at' : l ≠ [] → ∃ b o, A = some ⟨b, o, none⟩ ∧ b < n ∧ ∀ i v, l[i]? = some v → CelAt W b (o + i * 5) v
  sz : ∀ v ∈ l, v.vs.size ≤ maxLen
theorem ValsAt.on {W W' : World} {n c : Nat} {l : List Val} {A : Option Addr} (h : ValsAt n W l A c) (hb : Below n W W') : ValsAt n W' l A c := by
  refine ⟨h.le, h.mx, fun hl => ?_, h.sz⟩
  obtain ⟨b, o, h1, h2, h3⟩ := h.at' hl
  exact ⟨b, o, h1, h2, fun i v hv => (h3 i v hv).on hb h2⟩
def flatV (l : List Val) : List Value := l.flatMap fun v => (celV v).toList
theorem flatV_len : ∀ l : List Val, (flatV l).length = l.length * 5
  | [] => rfl
  | v :: l => by
    have := flatV_len l
    unfold flatV at this ⊢
    rw [List.flatMap_cons, List.length_append, this, List.length_cons]
    show 5 + _ = _
    omega
theorem flatV_at : ∀ (l : List Val) (j : Nat) (u : Value), (flatV l)[j]? = some u → ∃ v, l[j / 5]? = some v ∧ (celV v)[j % 5]? = some u
  | [], j, u, h => by simp [flatV] at h
  | v :: l, j, u, h => by
    unfold flatV at h
    rw [List.flatMap_cons] at h
    rcases Nat.lt_or_ge j 5 with hj | hj
    · rw [List.getElem?_append_left (by show j < 5; exact hj)] at h
      refine ⟨v, by rw [Nat.div_eq_of_lt hj]; rfl, ?_⟩
      rw [Nat.mod_eq_of_lt hj, ← Array.getElem?_toList]
      exact h
    · rw [List.getElem?_append_right (by show 5 ≤ j; exact hj)] at h
      obtain ⟨x, h1, h2⟩ := flatV_at l (j - 5) u h
      refine ⟨x, ?_, ?_⟩
      · rw [show j / 5 = (j - 5) / 5 + 1 by omega]
        exact h1
      · rw [show j % 5 = (j - 5) % 5 by omega]
        exact h2
theorem CelAt.get {W : World} {b o : Nat} {v : Val} (h : CelAt W b o v) {k : Nat} {u : Value} (hu : (celV v)[k]? = some u) : W.cell? ⟨b, o + k, none⟩ = some u := by
  obtain ⟨h0, h1, h2, h3, h4⟩ := h
  match k, hu with
  | 0, hu => exact h0.trans hu
  | 1, hu => exact h1.trans hu
  | 2, hu => exact h2.trans hu
  | 3, hu => exact h3.trans hu
  | 4, hu => exact h4.trans hu
  | k + 5, hu => simp [celV] at hu
theorem info_val : (Tryz.prog.info? 57).map (fun i => (i.zero, i.size, i.bytes)) = some (some (.agg #[.int .i64 0, .bool false, .float .f64 0, .string ⟨#[]⟩, .int .i64 0]), 5, 48) := by kernel_rfl
theorem one_cel (l : List Val) : (flatV l).all (·.oneCell') = true := by
  rw [List.all_eq_true]
  intro u hu
  obtain ⟨j, hj⟩ := List.getElem?_of_mem hu
  obtain ⟨v, _, h⟩ := flatV_at l j u hj
  have hm := Array.mem_of_getElem? h
  simp [celV] at hm
  rcases hm with rfl | rfl | rfl | rfl | rfl <;> rfl
set_option maxRecDepth 100000 in
set_option maxHeartbeats 2000000 in
theorem clone_any {l : List Val} {A : Option Addr} {c : Nat} {w : World} (h : ValsAt w.heap.size w l A c) :
    Calls Tryz.prog 46 #[.slice A l.length c] w fun e w' => ∃ v', e = .returned v' ∧ w'.ownsRow w.heap.size 57 5 v' l.length (flatV l) ∧ Below w.heap.size w w' := by
  obtain ⟨i0, hi, hz0, hz1, hz2⟩ := info_parts info_val
  cases A with
  | none =>
    have hl : l = [] := by
      rcases l with _ | ⟨x, r⟩
      · rfl
      · obtain ⟨b, o, e, _⟩ := h.at' (by simp)
        cases e
    subst hl
    clear h
    go_enter Tryz.func46, Tryz.ntmps46
    go_wp2
    go_ret
    exact ⟨_, rfl, ⟨rfl, .inl ⟨rfl, rfl⟩⟩, Below.refl _ _⟩
  | some a =>
    have H := Lib.hid h
    clear h
    have hcel : ∀ (X : Obj) j u, (flatV l)[j]? = some u → (w.alloc X).cell? (a.add j) = some u := fun X j u hj => by
      obtain ⟨v, h1, h2⟩ := flatV_at l j u hj
      obtain ⟨b, o, e, hb, hv⟩ := H.out.at' (by rintro rfl; simp at h1)
      cases e
      have hc := ((hv _ _ h1).on (below_a1 w X) hb).get h2
      have hadd : (⟨b, o, none⟩ : Addr).add j = ⟨b, o + (j / 5) * 5 + j % 5, none⟩ := by
        have : o + (j / 5) * 5 + j % 5 = o + j := by omega
        rw [this]
        unfold Addr.add; split <;> simp_all
      rw [hadd]
      exact hc
    have hown : (w.alloc (.cells #[] 57)).ownsRow w.heap.size 57 5 (.slice (some ⟨w.heap.size, 0, none⟩) 0 0) 0 [] := ⟨rfl, .inr ⟨w.heap.size, 0, #[], rfl, Nat.le_refl _, heap_alloc_last w _, Nat.le_refl _, Nat.zero_le _, rfl, rfl⟩⟩
    have HC := Lib.hid hcel
    have HM := Lib.hid H.out.mx
    have HLN := Lib.hid (flatV_len l)
    have HON := Lib.hid (List.all_eq_true.1 (one_cel l))
    clear H hcel
    go_enter Tryz.func46, Tryz.ntmps46
    go_wp2_with (at_builtin; refine wpList_append_own _ rfl _ _ 59 rfl w.heap.size 57 i0 (.agg #[.int .i64 0, .bool false, .float .f64 0, .string ⟨#[]⟩, .int .i64 0]) 5 48 Tryz.underlying59 hi hz0 hz1 hz2 rfl (by decide) _ _ _ rfl hown a l.length c (flatV l) rfl HLN.out (HC.out _) HON.out (by have := HM.out; unfold maxLen; simp; omega) (by have := HM.out; simp; omega) (by simp) ?_; intro v' w4 hown4 hgrow4 hnil4; refine Hid.out ?_)
    have hb4 : Below w.heap.size w w4 := (below_a1 w _).trans ⟨hgrow4.os, hgrow4.tape, hgrow4.output, hgrow4.size, fun k hk => hgrow4.block k (by simp; omega) (fun e => by have := (hown.lt k e.symm).1; omega)⟩
    have HB4 := Lib.hid hb4
    have HO4 := Lib.hid hown4
    clear hb4 hown4 hgrow4 hnil4 hown
    refine Lib.hid ?_
    go_wp2
    go_ret
    exact ⟨_, rfl, by simpa using HO4.out, HB4.out⟩
theorem ValsAt.more {W : World} {n m c : Nat} {l : List Val} {A : Option Addr} (h : ValsAt n W l A c) (hm : n ≤ m) : ValsAt m W l A c := by
  refine ⟨h.le, h.mx, fun hl => ?_, h.sz⟩
  obtain ⟨b, o, h1, h2, h3⟩ := h.at' hl
  exact ⟨b, o, h1, by omega, h3⟩
/-- Values in a row that the call owns. -/
theorem vals_own {B : Nat} {l : List Val} {v : Value} {w : World} (h : w.ownsRow B 57 5 v l.length (flatV l)) (hm : l.length ≤ 4194304) (hs : ∀ v ∈ l, v.vs.size ≤ maxLen) : ∃ A c, v = .slice A l.length c ∧ ValsAt w.heap.size w l A c := by
  rcases h.2 with ⟨rfl, h0⟩ | ⟨g, cap, cur, rfl, hB, hg, hcap, hmax, hcur, htk⟩
  · have hl : l = [] := List.eq_nil_of_length_eq_zero h0
    subst hl
    exact ⟨none, 0, rfl, ⟨Nat.le_refl _, hm, fun h => absurd rfl h, hs⟩⟩
  · refine ⟨_, cap, rfl, ⟨hcap, hm, fun hl => ⟨g, 0, rfl, (Array.getElem?_eq_some_iff.1 hg).1, fun i v hv => ?_⟩, hs⟩⟩
    have hil : i < l.length := (List.getElem?_eq_some_iff.1 hv).1
    have get : ∀ k u, k < 5 → (celV v)[k]? = some u → w.cell? ⟨g, 0 + i * 5 + k, none⟩ = some u := by
      intro k u hk hu
      have hf : (flatV l)[i * 5 + k]? = some u := by
        have hlt : i * 5 + k < (flatV l).length := by rw [flatV_len]; omega
        obtain ⟨u', hu'⟩ : ∃ u', (flatV l)[i * 5 + k]? = some u' := ⟨_, List.getElem?_eq_getElem hlt⟩
        obtain ⟨v', h1, h2⟩ := flatV_at l _ _ hu'
        rw [show (i * 5 + k) / 5 = i by omega, hv] at h1
        cases h1
        rw [show (i * 5 + k) % 5 = k by omega, hu] at h2
        rw [hu', h2]
      rw [cell_of_row w g _ _ _ _ hg]
      have e : (cur.toList.take (l.length * 5))[i * 5 + k]? = some u := by rw [htk]; exact hf
      rw [List.getElem?_take_of_lt (by omega)] at e
      rw [Nat.zero_add]
      simpa using e
    exact ⟨get 0 _ (by omega) rfl, get 1 _ (by omega) rfl, get 2 _ (by omega) rfl, get 3 _ (by omega) rfl, get 4 _ (by omega) rfl⟩
end Go.Proofs.YtmlgjijjkikkhaaGreatDoor
