/-
  The law EarlyDeclares, given awake. The law EarlyDeclares tells true of any tree, given awake and the lexer's two functions.
-/
import Derived.Test.YtjbofhaiephedaaGreatJm
import Derived.Test.YtjbofhaiephedaaGreatJ37
namespace Go.Proofs.YtjbofhaiephedaaGreat
open Go.RowKit Go.Shelf
attribute [local go_sem] stFl hmf
theorem strS_of {w : World} {B : Nat} {v : Value} {ls : List ByteArray} (h : w.ownsRow B 9 1 v ls.length (ls.map Value.string)) (hl : ls.length ≤ 4194304) : ∃ A c, v = .slice A ls.length c ∧ ls.length ≤ c ∧ StrS w A ls ∧ (ls ≠ [] → ∃ g, A = some ⟨g, 0, none⟩) := by
  rcases h.2 with ⟨rfl, h0⟩ | ⟨g, cap, cur, rfl, _, hg, hc, _, _, hx⟩
  · refine ⟨none, 0, by rw [h0], by omega, ⟨fun i s hi => ?_, hl⟩, fun hne => absurd (List.length_eq_zero_iff.1 h0) hne⟩
    have := (List.getElem?_eq_some_iff.1 hi).1
    omega
  · refine ⟨_, cap, rfl, hc, ⟨fun i s hi => ⟨g, 0, rfl, ?_⟩, hl⟩, fun _ => ⟨g, rfl⟩⟩
    have hil := (List.getElem?_eq_some_iff.1 hi).1
    rw [Nat.zero_add]
    refine (cell_of_row w g i _ _ _ hg).trans ?_
    have h1 : (cur.toList.take (ls.length * 1))[i]? = some (.string s) := by rw [hx, List.getElem?_map, hi]; rfl
    rw [List.getElem?_take_of_lt (by omega)] at h1
    simpa using h1
theorem StrS.pre {w : World} {A : Option Addr} {ls : List ByteArray} (h : StrS w A ls) (i : Nat) : StrS w A (ls.take i) :=
  ⟨fun j s hj => by
    have hl := (List.getElem?_eq_some_iff.1 hj).1
    rw [List.length_take] at hl
    rw [List.getElem?_take_of_lt (by omega)] at hj
    exact h.go j s hj, by rw [List.length_take]; have := h.le; omega⟩
set_option maxRecDepth 100000 in
set_option maxHeartbeats 4000000 in
theorem declares_err (t : Tn) (A : Option Addr) (c : Nat) (W : World) (hW : ∀ w, Calls Tryz.prog 9 #[] w fun e w' => e = .returned (.bool true) ∧ Below w.heap.size w w')
    (hC : ∀ w, Below W.heap.size W w → Calls Tryz.prog 13 #[nodA t.datum A t.kids.length c] w fun e w' => (∃ v k, e = .returned (.tuple #[v, .int .i64 k]) ∧ (k = 70 ∨ kd t ≠ 40 ∧ k = 0)) ∧ Below w.heap.size w w') :
    Calls Tryz.prog 6 #[nodA t.datum A t.kids.length c] W fun e w' => e = .returned (.bool true) ∧ Below W.heap.size W w' := by
  have C1 := Lib.hid (fun X => hC _ (b1 X))
  have C2 := Lib.hid hW
  have HB := Lib.hid (b1 (w := W))
  clear hC hW
  unfold nodA at C1 ⊢
  go_enter Tryz.func6, Tryz.ntmps6
  go_wp2_with fail
  refine (C1.out _).mono ?_
  rintro e w2 ⟨⟨v, k, rfl, hk⟩, b2⟩
  have HB2 := Lib.hid ((HB.out _).trans (b2.mono (HB.out _).size))
  rcases hk with rfl | ⟨hk, rfl⟩
  · clear b2 C1
    go_wp2_with fail
    refine (C2.out _).mono ?_
    rintro e w3 ⟨rfl, b3⟩
    have HB3 := Lib.hid (HB2.out.trans (b3.mono HB2.out.size))
    clear b3
    go_wp2
    go_ret
    exact ⟨rfl, HB3.out⟩
  · have hkb : (t.datum.k != 40) = true := by
      rw [bne, show (t.datum.k == 40) = false from beq_false_of_ne hk]
      rfl
    obtain ⟨n0, _⟩ := box_kept b2
    clear b2 C1
    go_wp2_with fail
    refine (C2.out _).mono ?_
    rintro e w3 ⟨rfl, b3⟩
    have HB3 := Lib.hid (HB2.out.trans (b3.mono HB2.out.size))
    clear b3
    go_wp2
    go_ret
    exact ⟨rfl, HB3.out⟩
set_option maxRecDepth 100000 in
set_option maxHeartbeats 4000000 in
theorem declares_ok {nmd rsv : ByteArray → Bool} (hL : Lx nmd rsv) (t : Tn) (A : Option Addr) (c : Nat) (W : World) (hA : AtS (fun b => b < W.heap.size) W t.kids (.slice A t.kids.length c)) (hF : Fit t) (hN : Tr.every okN t = true) (h24 : t.size ≤ 4398046511102)
    (hW : ∀ w, Calls Tryz.prog 9 #[] w fun e w' => e = .returned (.bool true) ∧ Below w.heap.size w w') (h40 : kd t = 40) (hok : treeOk nmd rsv (proN t.kids) = true) (hde : decG (namL t.kids) t = true) :
    Calls Tryz.prog 6 #[nodA t.datum A t.kids.length c] W fun e w' => e = .returned (.bool true) ∧ Below W.heap.size W w' := by
  have hst : stmN t = some t := by
    unfold stmN
    rw [show t.datum.k = 40 from h40]
    rfl
  have C1 := Lib.hid (fun X => (names_some hL t A c (W.alloc X) ((hA.imp (fun b hb => Nat.lt_of_lt_of_le hb (b1 X).size)).keep (fun b _ hl => Below.block (b1 X) b (by
    exact Nat.lt_of_lt_of_le hl (Nat.le_refl _)))) hF hN h24 t hst))
  have hbnd : (namL t.kids).length ≤ 4194304 := by
    unfold treeOk proN at hok
    simp only [Bool.and_eq_true, decide_eq_true_eq] at hok
    have h := hok.2.1
    rw [Tr.size] at h
    have h1 := varL_le (t.kids.foldl fnL []) t.kids
    have h2 := fnL_le t.kids []
    have h3 := sizes_len t.kids
    simp only [List.length_nil] at h2
    unfold namL
    omega
  have hdis : Dis (namL t.kids) := dis_all t.kids
  have C3 := Lib.hid hW
  have HB := Lib.hid (b1 (w := W))
  have HOK := Lib.hid hok
  have HDE := Lib.hid hde
  have HA := Lib.hid hA
  have hkb : (t.datum.k != 40) = false := by
    rw [bne, show (t.datum.k == 40) = true by rw [show t.datum.k = 40 from h40]; rfl]
    rfl
  obtain ⟨LS, hLS⟩ : ∃ LS, namL t.kids = LS := ⟨_, rfl⟩
  rw [hLS] at C1 HDE hbnd hdis
  have HD := Lib.hid hdis
  have HBND := Lib.hid hbnd
  clear hLS hbnd hdis hW hok hde hA hL hF hN h24 hst h40
  unfold nodA at C1 ⊢
  go_enter Tryz.func6, Tryz.ntmps6
  go_wp2_with fail
  refine (C1.out _).mono ?_
  rintro e w2 ⟨⟨v, k, rfl, hk⟩, b2⟩
  rw [if_pos HOK.out] at hk
  obtain ⟨rfl, B, hown⟩ := hk
  obtain ⟨A3, c3, rfl, hc3, hS, hg⟩ := strS_of hown HBND.out
  have HS := Lib.hid hS
  have HG := Lib.hid hg
  obtain ⟨n0, n1, n2, n3, n4, n5, n6⟩ := box_kept b2
  have HB2 := Lib.hid ((HB.out _).trans (b2.mono (HB.out _).size))
  have B0 := Lib.hid (Below.refl w2.heap.size w2)
  have HC3 := Lib.hid hc3
  have hlen : LS.length ≤ 4194304 := HBND.out
  clear b2 C1 hown hS hg
  go_wp2
  go_loopw [5] (fun i wr => ∃ i0 : Nat, i = .int .i64 i0 ∧ i0 ≤ LS.length ∧ Hid (Below w2.heap.size w2 wr)) (fun i _ => LS.length - (intOf i).toNat)
  case atStart => exact ⟨0, rfl, Nat.zero_le _, B0⟩
  case round =>
    obtain ⟨i0, rfl, hi0, hB⟩ := hrel
    by_cases hi : i0 < LS.length
    · obtain ⟨s, hs⟩ : ∃ s, LS[i0]? = some s := ⟨_, List.getElem?_eq_getElem hi⟩
      obtain ⟨g, rfl⟩ := HG.out (by intro h0; rw [h0] at hs; simp at hs)
      obtain ⟨g', o', e1, hcell⟩ := (HS.out.on hB.out).go i0 s hs
      cases e1
      rw [Nat.zero_add] at hcell
      have hlt : (LS.take i0).length = i0 := by rw [List.length_take]; omega
      have C2 : Hid (∀ W', Below wr.heap.size wr W' → Calls Tryz.prog 14 #[.slice (some ⟨g, 0, none⟩) i0 c3, .string s] W' fun e w' => e = .returned (.bool false) ∧ W' = w') := Lib.hid fun W' hb => by
        have h := has_any (LS.take i0) (some ⟨g, 0, none⟩) c3 s W' (((HS.out.on hB.out).on hb).pre i0)
        rw [hlt, hasL_mem, HD.out i0 s hs] at h
        exact h
      have hic : i0 ≤ c3 := by have := HC3.out; omega
      clear hs hlt n0 n1 n2 n3 n4 n5 n6
      go_wp2
      go_region_with (refine (C2.out _ (Below.refl _ _).drew).mono ?_; rintro e w9 ⟨rfl, rfl⟩)
      all_goals
        go_wp2
        exact ⟨⟨i0 + 1, rfl, hi, Lib.hid hB.out.drew⟩, meas_dec hi⟩
    · have hi1 : i0 = LS.length := by omega
      have m0 := cell_kept n0 hB.out
      have m1 := cell_kept n1 hB.out
      have m2 := cell_kept n2 hB.out
      have m3 := cell_kept n3 hB.out
      have m4 := cell_kept n4 hB.out
      have m5 := cell_kept n5 hB.out
      have m6 := cell_kept n6 hB.out
      have HBr := Lib.hid (HB2.out.trans (hB.out.mono HB2.out.size))
      have C4 := Lib.hid (declared_any LS A3 c3 t.depth t A c _ wr (Nat.le_refl _) (HA.out.keep (Same.below HBr.out)) (HS.out.on hB.out))
      rw [HDE.out] at C4
      unfold nodA at C4
      clear n0 n1 n2 n3 n4 n5 n6
      go_wp2_with fail
      refine C4.out.mono ?_
      rintro e w5 ⟨rfl, b5⟩
      have HB5 := Lib.hid (HBr.out.trans (b5.mono HBr.out.size))
      clear b5 C4 m0 m1 m2 m3 m4 m5 m6
      go_wp2_with fail
      refine (C3.out _).mono ?_
      rintro e w6 ⟨rfl, b6⟩
      have HB6 := Lib.hid (HB5.out.trans (b6.mono HB5.out.size))
      clear b6
      go_wp2
      go_ret
      exact ⟨rfl, HB6.out⟩
end Go.Proofs.YtjbofhaiephedaaGreat
namespace Go.Proofs.YtjbofhaiephedaaGreat
open Go.RowKit Go.Shelf
theorem declares_any {nmd rsv : ByteArray → Bool} (hL : Lx nmd rsv) (t : Tn) (A : Option Addr) (c : Nat) (W : World) (hA : AtS (fun b => b < W.heap.size) W t.kids (.slice A t.kids.length c)) (hF : Fit t) (hN : Tr.every okN t = true) (h24 : t.size ≤ 4398046511102)
    (hW : ∀ w, Calls Tryz.prog 9 #[] w fun e w' => e = .returned (.bool true) ∧ Below w.heap.size w w') :
    Calls Tryz.prog 6 #[nodA t.datum A t.kids.length c] W fun e w' => e = .returned (.bool true) ∧ Below W.heap.size W w' := by
  have hA' : ∀ w, Below W.heap.size W w → AtS (fun b => b < w.heap.size) w t.kids (.slice A t.kids.length c) := fun w hb =>
    (hA.imp (fun b h => Nat.lt_of_lt_of_le h hb.size)).keep (fun b h hl => by
      have := hA
      exact hb.block b hl)
  cases hs : stmN t with
  | none => exact declares_err t A c W hW fun w hb => (names_none t A c w (hA' w hb) hs).mono fun e w' ⟨h1, h2⟩ => ⟨⟨_, _, h1, .inl rfl⟩, h2⟩
  | some y =>
    have hC := fun w (hb : Below W.heap.size W w) => names_some hL t A c w (hA' w hb) hF hN h24 y hs
    cases hok : treeOk nmd rsv (proN y.kids)
    · refine declares_err t A c W hW fun w hb => (hC w hb).mono ?_
      rintro e w' ⟨⟨v, k, h1, h2⟩, h3⟩
      rw [hok, if_neg (by simp)] at h2
      exact ⟨⟨v, k, h1, .inl h2.2⟩, h3⟩
    · by_cases h40 : kd t = 40
      · have hyt : y = t := by
          have : stmN t = some t := by
            unfold stmN
            rw [show t.datum.k = 40 from h40]
            rfl
          rw [this] at hs
          exact (Option.some.inj hs).symm
        subst hyt
        refine declares_ok hL y A c W hA hF hN h24 hW h40 hok ?_
        have hev : Tr.every (fun x => hld (shp nmd rsv (kd x).toNat) x) (proN y.kids) = true := by
          unfold treeOk at hok
          simp only [Bool.and_eq_true] at hok
          exact hok.2.2.2
        have h1 : decG (namL y.kids) (proN y.kids) = true := dec_prog rfl hev
        rw [decG_eq] at h1 ⊢
        rw [show y.datum.k = 40 from h40]
        exact h1
      · refine declares_err t A c W hW fun w hb => (hC w hb).mono ?_
        rintro e w' ⟨⟨v, k, h1, h2⟩, h3⟩
        rw [hok, if_pos rfl] at h2
        exact ⟨⟨v, k, h1, .inr ⟨h40, h2.1⟩⟩, h3⟩
end Go.Proofs.YtjbofhaiephedaaGreat
