/-
  Draws: slices of floats in memory; which may be.
-/
import Derived.Test.YtmlgjijjkikkhaaGreatDoorM2
namespace Go.Proofs.YtmlgjijjkikkhaaGreatDoor
open Go.ChangeShapes Go.WideShapes Go.ChangeAt Go.RowKit
attribute [local go_sem] stF neqM eqS
theorem infoF : (Tryz.prog.info? 41).map (fun i => (i.zero, i.size, i.bytes)) = some (some (.float .f64 0), 1, 8) := by kernel_rfl
def Fs (l : List Nat) : Prop := ∀ u ∈ l, u < 18446744073709551616
theorem Fs.nil : Fs [] := fun u h => by simp at h
/-- The cells from A on read as the floats l, in a block below B. -/
def RF (w : World) (B : Nat) (A : Option Addr) (l : List Nat) : Prop :=
  Fs l ∧ (0 < l.length → ∃ b off, A = some ⟨b, off, none⟩ ∧ b < B ∧ ∀ k u : Nat, l[k]? = some u → w.cell? ⟨b, off + k, none⟩ = some (.float .f64 u))
theorem RF.nil (w : World) (B : Nat) (A : Option Addr) : RF w B A [] := ⟨Fs.nil, fun h => by simp at h⟩
theorem RF.step {w w' : World} {A : Option Addr} {l : List Nat} (h : RF w w.heap.size A l) (hb : Below w.heap.size w w') : RF w' w'.heap.size A l := ⟨h.1, fun hl => by
  obtain ⟨b, off, e, h1, h2⟩ := h.2 hl
  exact ⟨b, off, e, Nat.lt_of_lt_of_le h1 hb.size, fun k u hu => (hb.cell (p := ⟨b, off + k, none⟩) h1).trans (h2 k u hu)⟩⟩
/-- A row of the call's own that holds the words l. -/
abbrev OwnFl (B : Nat) (l : List Nat) (v : Value) (w : World) : Prop := w.ownsRow B 41 1 v l.length (l.map fun u => Value.float .f64 u)
theorem OwnFl.nil (B : Nat) (w : World) : OwnFl B [] (.slice none 0 0) w := World.ownsRow_nil _ _ _ _
theorem OwnFl.rf {B : Nat} {l : List Nat} {v : Value} {w : World} (h : OwnFl B l v w) (hw : Fs l) : ∃ A c, v = .slice A l.length c ∧ l.length ≤ c ∧ RF w w.heap.size A l := by
  rcases h.2 with ⟨rfl, h0⟩ | ⟨g, cap, cur, rfl, hB, hg, hcap, hmax, hcur, htk⟩
  · obtain rfl : l = [] := List.eq_nil_of_length_eq_zero h0
    exact ⟨none, 0, rfl, Nat.le_refl _, RF.nil _ _ _⟩
  · refine ⟨_, cap, rfl, hcap, hw, fun hl => ⟨g, 0, rfl, (World.ownsRow.lt h g rfl).2, fun k u hu => ?_⟩⟩
    have := h.cells (g := g) rfl k (.float .f64 u) (by rw [List.getElem?_map, hu]; rfl)
    by_cases hz : k = 0
    · subst hz; simpa [Addr.add] using this
    · simpa [Addr.add, hz] using this
theorem OwnFl.cap {B : Nat} {l : List Nat} {A : Option Addr} {n c : Nat} {w : World} (h : OwnFl B l (.slice A n c) w) : n = l.length ∧ n ≤ c := by
  rcases h.2 with ⟨e, h0⟩ | ⟨g, cap, cur, e, hB, hg, hcap, hmax, hcur, htk⟩
  · cases e; exact ⟨by omega, Nat.le_refl _⟩
  · cases e; exact ⟨rfl, hcap⟩
theorem rf_news {w : World} {b off : Nat} {l : List Nat} (h : ∀ k u : Nat, l[k]? = some u → w.cell? ⟨b, off + k, none⟩ = some (.float .f64 u)) :
    ∀ (j : Nat) u, (l.map fun u => Value.float .f64 u)[j]? = some u → w.cell? ((⟨b, off, none⟩ : Addr).add j) = some u := by
  intro j u hu
  rw [List.getElem?_map] at hu
  cases e : l[j]? with
  | none => rw [e] at hu; cases hu
  | some x =>
    rw [e] at hu
    simp only [Option.map_some, Option.some.injEq] at hu
    subst hu
    have := h j x e
    by_cases hz : j = 0
    · subst hz; simpa [Addr.add] using this
    · simpa [Addr.add, hz] using this
theorem rf_one (l : List Nat) : ∀ u ∈ (l.map fun u => Value.float .f64 u), u.oneCell' = true := by
  intro u hu
  simp only [List.mem_map] at hu
  obtain ⟨x, _, rfl⟩ := hu
  rfl
/-- May it be a draw? -/
def okD (x : Nat) : Bool := (FloatKind.f64.format.order x 0 == some .gt || FloatKind.f64.format.order x 0 == some .eq) && FloatKind.f64.format.order x 4607182418800017408 == some .lt
def okDs (l : List Nat) : Bool := l.all okD
set_option maxRecDepth 100000 in
set_option maxHeartbeats 1000000 in
theorem wrong_any (x : Nat) (w : World) : Calls Tryz.prog 35 #[.float .f64 x] w fun e w' => e = .returned (.bool (!okD x)) ∧ w = w' := by
  unfold okD
  obtain ⟨a, ha⟩ : ∃ a, FloatKind.f64.format.order x 0 = a := ⟨_, rfl⟩
  obtain ⟨b, hb⟩ : ∃ b, FloatKind.f64.format.order x 4607182418800017408 = b := ⟨_, rfl⟩
  rw [ha, hb]
  rcases a with _ | _ | _ | _
  all_goals rcases b with _ | _ | _ | _
  all_goals
    go_enter Tryz.func35, Tryz.ntmps35
    go_wp2
    go_ret
    exact ⟨rfl, rfl⟩
set_option maxRecDepth 100000 in
set_option maxHeartbeats 1000000 in
theorem within_any (n k : Int) (w : World) : Calls Tryz.prog 33 #[.int .i64 n, .int .i64 k] w fun e w' => e = .returned (.bool (decide (0 ≤ n) && decide (n ≤ k))) ∧ w = w' := by
  by_cases h0 : 0 ≤ n
  · have q0 : decide (0 ≤ n) = true := by simpa using h0
    rw [q0]
    go_enter Tryz.func33, Tryz.ntmps33
    go_wp2
    go_ret
    exact ⟨by simp, rfl⟩
  · have q0 : decide (0 ≤ n) = false := by simpa using h0
    rw [q0]
    clear h0
    go_enter Tryz.func33, Tryz.ntmps33
    go_wp2
    go_ret
    exact ⟨by simp, rfl⟩
theorem RF.get {w : World} {B : Nat} {A : Option Addr} {l : List Nat} (h : RF w B A l) {i u : Nat} (hi : l[i]? = some u) : ∃ b off, A = some ⟨b, off, none⟩ ∧ w.cell? ⟨b, off + i, none⟩ = some (.float .f64 u) := by
  obtain ⟨b, off, e, _, hc⟩ := h.2 (by have := (List.getElem?_eq_some_iff.1 hi).1; omega)
  exact ⟨b, off, e, hc i u hi⟩
set_option maxRecDepth 100000 in
set_option maxHeartbeats 1000000 in
theorem index_wrong (A : Option Addr) (n c : Nat) (l : List Nat) (w : World) (hn : l.length = n) (hm : n ≤ 17592186043904) (h : RF w w.heap.size A l) :
    Calls Tryz.prog 53 #[.slice A n c, .func (.func 35) #[] #[]] w fun e w' => ∃ k : Int, e = .returned (.int .i64 k) ∧ (0 ≤ k ↔ okDs l = false) ∧ w = w' := by
  have C1 := Lib.hid (fun x W => wrong_any x W)
  have HN := Lib.hid hn
  have HM := Lib.hid hm
  have HR := Lib.hid h
  clear hn hm h
  go_enter Tryz.func53, Tryz.ntmps53
  go_wp2_with fail
  go_loopw [8] (fun v8 wr => ∃ k : Nat, v8 = .int .i64 (k : Nat) ∧ Hid (k ≤ n) ∧ Hid ((l.take k).all okD = true) ∧ wr = w) (fun v8 _ => ((n : Int) - intOf v8).toNat)
  case atStart => exact ⟨0, rfl, Lib.hid (Nat.zero_le _), Lib.hid (by simp), rfl⟩
  case round =>
    obtain ⟨k, rfl, HK, HT, rfl⟩ := hrel
    by_cases hkn : k < n
    · have hm' := HM.out
      have t1 : decide ((k : Int) < (n : Int)) = true := decide_eq_true (by omega)
      have t2 : (k : Int) < (n : Int) := by omega
      have t3 : (0 : Int) ≤ (k : Int) := by omega
      have k1 : IntKind.i64.wrap ((k : Int) + 1) = ((k + 1 : Nat) : Int) := by rw [IntWalk.i64_in _ (by omega)]; omega
      obtain ⟨x, hx⟩ : ∃ x, l[k]? = some x := ⟨_, List.getElem?_eq_getElem (by have := HN.out; omega)⟩
      obtain ⟨g, off, rfl, hc⟩ := HR.out.get hx
      have HX := Lib.hid hx
      have HKN := Lib.hid hkn
      clear hx hkn hm'
      cases hq : okD x with
      | true =>
        have C2 := Lib.hid (fun W => show Calls Tryz.prog 35 #[.float .f64 x] W fun e w' => e = .returned (.bool false) ∧ W = w' by have := C1.out x W; rw [hq] at this; exact this)
        have HT1 := Lib.hid (show (l.take (k + 1)).all okD = true by rw [List.take_add_one, HX.out]; simp [List.all_append, HT.out, hq])
        clear hq HT
        go_wp2_with fail
        refine (C2.out _).mono ?_
        rintro e w' ⟨rfl, rfl⟩
        go_wp2
        go_roundw
        case rel => exact ⟨k + 1, by go_num, Lib.hid (by have := HKN.out; omega), HT1, by trivial⟩
        case measure => have := HKN.out; simp [intOf]; omega
      | false =>
        have C2 := Lib.hid (fun W => show Calls Tryz.prog 35 #[.float .f64 x] W fun e w' => e = .returned (.bool true) ∧ W = w' by have := C1.out x W; rw [hq] at this; exact this)
        have HF := Lib.hid (show okDs l = false from List.all_eq_false.2 ⟨x, List.mem_of_getElem? HX.out, by simp [hq]⟩)
        clear hq HT
        go_wp2_with fail
        refine (C2.out _).mono ?_
        rintro e w' ⟨rfl, rfl⟩
        go_wp2
        go_ret
        exact ⟨k, rfl, ⟨fun _ => HF.out, fun _ => Int.natCast_nonneg _⟩, rfl⟩
    · have t1 : decide ((k : Int) < (n : Int)) = false := decide_eq_false (by omega)
      have t2 : ¬ ((k : Int) < (n : Int)) := by omega
      have HF := Lib.hid (show okDs l = true by
        have h1 := HT.out
        have h2 : k = l.length := by have := HK.out; have := HN.out; omega
        rw [h2, List.take_length] at h1; exact h1)
      clear hkn HT
      go_wp2
      go_ret
      exact ⟨-1, rfl, ⟨fun h => absurd h (by decide), fun h => by have := HF.out; rw [h] at this; cases this⟩, rfl⟩
set_option maxRecDepth 100000 in
set_option maxHeartbeats 1000000 in
theorem contains_wrong (A : Option Addr) (n c : Nat) (l : List Nat) (w : World) (hn : l.length = n) (hm : n ≤ 17592186043904) (h : RF w w.heap.size A l) :
    Calls Tryz.prog 34 #[.slice A n c, .func (.func 35) #[] #[]] w fun e w' => e = .returned (.bool (!okDs l)) ∧ w = w' := by
  have C1 := Lib.hid (index_wrong A n c l w hn hm h)
  clear hn hm h
  obtain ⟨b, hb⟩ : ∃ b, okDs l = b := ⟨_, rfl⟩
  rw [hb] at C1 ⊢
  go_enter Tryz.func34, Tryz.ntmps34
  go_wp2_with fail
  refine C1.out.mono ?_
  rintro e w' ⟨k, rfl, hk, rfl⟩
  cases b with
  | true =>
    have q : decide (0 ≤ k) = false := decide_eq_false (fun h => by have := hk.1 h; cases this)
    clear hk hb C1
    go_wp2
    go_ret
    exact ⟨by simp, rfl⟩
  | false =>
    have q : decide (0 ≤ k) = true := decide_eq_true (hk.2 rfl)
    clear hk hb C1
    go_wp2
    go_ret
    exact ⟨by simp, rfl⟩
theorem eqF (a : Option Addr) (n c : Nat) (w : World) : (binOp .eql 24 (.slice a n c) (.slice none 0 0)).run Tryz.prog w = .ok (.bool a.isNone) w := Lib.run_eql_slice_nil w 24 _ a n c 0 0 Tryz.underlying24
attribute [local go_sem] eqF
theorem RF.nilA {w : World} {B : Nat} {l : List Nat} (h : RF w B none l) : l = [] := by
  cases l with
  | nil => rfl
  | cons x r =>
    obtain ⟨b, off, e, _⟩ := h.2 (by simp)
    cases e
theorem RF.on {w w' : World} {A : Option Addr} {l : List Nat} {B : Nat} (h : RF w B A l) (hb : Below B w w') : RF w' B A l := ⟨h.1, fun hl => by
  obtain ⟨b, off, e, h1, h2⟩ := h.2 hl
  exact ⟨b, off, e, h1, fun k u hu => (hb.cell (p := ⟨b, off + k, none⟩) h1).trans (h2 k u hu)⟩⟩
theorem RF.more {w : World} {A : Option Addr} {l : List Nat} {B C : Nat} (h : RF w B A l) (hb : B ≤ C) : RF w C A l := ⟨h.1, fun hl => by
  obtain ⟨b, off, e, h1, h2⟩ := h.2 hl
  exact ⟨b, off, e, by omega, h2⟩⟩
set_option maxRecDepth 100000 in
set_option maxHeartbeats 1000000 in
theorem clone_f {A : Option Addr} {n c : Nat} {l : List Nat} {w : World} (hn : l.length = n) (hm : n ≤ 17592186043904) (h : RF w w.heap.size A l) :
    Calls Tryz.prog 36 #[.slice A n c] w fun e w' => (∃ B k q, e = .returned (.slice B k q)) ∧ Below w.heap.size w w' := by
  obtain ⟨i0, hi, hz0, hz1, hz2⟩ := info_parts infoF
  rcases A with _ | ad
  · obtain rfl := h.nilA
    clear h
    go_enter Tryz.func36, Tryz.ntmps36
    go_wp2
    go_ret
    exact ⟨⟨_, _, _, rfl⟩, Below.refl _ _⟩
  · have hcs : ∀ (X : Obj) (j : Nat) u, (l.map fun u => Value.float .f64 u)[j]? = some u → (w.alloc X).cell? (ad.add j) = some u := fun X => by
      rcases Nat.eq_zero_or_pos l.length with h0 | h0
      · obtain rfl : l = [] := List.eq_nil_of_length_eq_zero h0
        intro j u hu
        simp at hu
      · obtain ⟨b, off, e, _, hc⟩ := (h.on (below_a1 w X)).2 h0
        cases e
        exact rf_news hc
    have hown : (w.alloc (.cells #[] 41)).ownsRow w.heap.size 41 1 (.slice (some ⟨w.heap.size, 0, none⟩) 0 0) 0 [] := ⟨rfl, .inr ⟨w.heap.size, 0, #[], rfl, Nat.le_refl _, heap_alloc_last w _, Nat.le_refl _, Nat.zero_le _, rfl, rfl⟩⟩
    have HC := Lib.hid hcs
    have HN := Lib.hid hn
    have HM := Lib.hid hm
    clear h hcs hn hm
    go_enter Tryz.func36, Tryz.ntmps36
    go_wp2_with (at_builtin; refine wpList_append_own _ rfl _ _ 24 rfl w.heap.size 41 i0 (.float .f64 0) 1 8 Tryz.underlying24 hi hz0 hz1 hz2 rfl (by decide) _ _ _ rfl hown ad n c (l.map fun u => Value.float .f64 u) rfl (by have := HN.out; simp; omega) (HC.out _) (rf_one l) (by have := HM.out; unfold maxLen; omega) (by have := HM.out; omega) (by simp) ?_; intro v' w4 hown4 hgrow4 hnil4; refine Hid.out ?_)
    have hb4 : Below w.heap.size w w4 := (below_a1 w _).trans ⟨hgrow4.os, hgrow4.tape, hgrow4.output, hgrow4.size, fun k hk => hgrow4.block k (by simp; omega) (fun e => by have := (hown.lt k e.symm).1; omega)⟩
    have HB4 := Lib.hid hb4
    obtain ⟨B4, k4, q4, rfl⟩ : ∃ B k q, v' = .slice B k q := by
      rcases hown4.2 with ⟨e, _⟩ | ⟨g, cap, cur, e, _⟩ <;> exact ⟨_, _, _, e⟩
    clear hb4 hown4 hgrow4 hnil4 hown
    refine Lib.hid ?_
    go_wp2
    go_ret
    exact ⟨⟨_, _, _, rfl⟩, HB4.out⟩
end Go.Proofs.YtmlgjijjkikkhaaGreatDoor
