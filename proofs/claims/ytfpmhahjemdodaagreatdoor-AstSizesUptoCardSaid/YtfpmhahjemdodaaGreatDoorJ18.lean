/-
  The program's tests as values; the table of them in memory.
-/
import Derived.Test.YtfpmhahjemdodaaGreatDoorJ17
import Derived.Deep.Upon
namespace Go.Proofs.YtfpmhahjemdodaaGreatDoor
open Go.RowKit Go.Shelf
theorem AtL.here {p : Nat → Prop} {W : World} {b o : Nat} {l : List Tn} (hl : l ≠ []) (h : AtL p W b o l) : b < W.heap.size := by
  cases l with
  | nil => exact absurd rfl hl
  | cons t l =>
    rw [AtL] at h
    obtain ⟨⟨cs, h1, h2⟩, _⟩ := h
    obtain ⟨v, r, rfl⟩ := at_seven h2
    exact cell_lt (h1 0 v rfl)
mutual
theorem At.lt {p : Nat → Prop} {W : World} : ∀ (t : Tn) (cs : List Value), At p W t cs → At (fun b => p b ∧ b < W.heap.size) W t cs
  | .mk d l, cs, h => by
    rw [At] at h ⊢
    obtain ⟨A, c, h1, h2, h3⟩ := h
    refine ⟨A, c, h1, h2, fun hl => ?_⟩
    obtain ⟨b, o, e1, e2, e3⟩ := h3 hl
    exact ⟨b, o, e1, ⟨e2, e3.here hl⟩, AtL.lt b o l e3⟩
theorem AtL.lt {p : Nat → Prop} {W : World} (b : Nat) : ∀ (o : Nat) (l : List Tn), AtL p W b o l → AtL (fun b => p b ∧ b < W.heap.size) W b o l
  | o, [], _ => by rw [AtL]; trivial
  | o, t :: l, h => by
    rw [AtL] at h ⊢
    obtain ⟨⟨cs, h1, h2⟩, h3⟩ := h
    exact ⟨⟨cs, h1, At.lt t cs h2⟩, AtL.lt b (o + 7) l h3⟩
end
theorem AtS.lt {p : Nat → Prop} {W : World} {l : List Tn} {s : Value} (h : AtS p W l s) : AtS (fun b => p b ∧ b < W.heap.size) W l s := by
  obtain ⟨A, c, h1, h2, h3⟩ := h
  refine ⟨A, c, h1, h2, fun hl => ?_⟩
  obtain ⟨b, o, e1, e2, e3⟩ := h3 hl
  exact ⟨b, o, e1, ⟨e2, e3.here hl⟩, AtL.lt b o l e3⟩
variable {nb : Nat}
theorem tst_expr (w : World) : Tst nb w (.func (.func 86) #[] #[]) tExpr :=
  Tst.plain (enters_of Tryz.func86 (by kernel_rfl) rfl) fun W t A c _ => (aexpression_any t.datum A t.kids.length c W).mono fun e w' ⟨h1, h2⟩ => ⟨h1.trans (by (simp [kGExpr, tExpr, tIs, kd, Bool.or_assoc]; rfl)), h2⟩
theorem tst_left (w : World) : Tst nb w (.func (.func 101) #[] #[]) tLeft :=
  Tst.plain (enters_of Tryz.func101 (by kernel_rfl) rfl) fun W t A c _ => (aleftSide_any t.datum A t.kids.length c W).mono fun e w' ⟨h1, h2⟩ => ⟨h1.trans (by (simp [tLeft, kGExpr, tExpr, tIs, kd, Bool.or_assoc]; rfl)), h2⟩
theorem tst_stat (w : World) : Tst nb w (.func (.func 103) #[] #[]) tStat :=
  Tst.plain (enters_of Tryz.func103 (by kernel_rfl) rfl) fun W t A c _ => (astatement_any t.datum A t.kids.length c W).mono fun e w' ⟨h1, h2⟩ => ⟨h1.trans (by (simp [kGStat, tStat, tIs, kd, Bool.or_assoc]; rfl)), h2⟩
theorem kGStat_eq (x : Tn) : kGStat x.datum.k = tStat x := by (simp [kGStat, tStat, tIs, kd, Bool.or_assoc]; rfl)
theorem tst_free (w : World) : Tst nb w (.func (.func 88) #[] #[]) tFree :=
  Tst.plain (enters_of Tryz.func88 (by kernel_rfl) rfl) fun W t A c _ => afree_any t.datum A t.kids.length c W
theorem tst_flag (w : World) : Tst nb w (.func (.func 107) #[] #[]) tFlag :=
  Tst.plain (enters_of Tryz.func107 (by kernel_rfl) rfl) fun W t A c _ => aflagged_any t.datum A t.kids.length c W
theorem tst_unnamed (w : World) : Tst nb w (.func (.func 96) #[] #[]) tUnnamed :=
  Tst.plain (enters_of Tryz.func96 (by kernel_rfl) rfl) fun W t A c _ => aunnamed_any t.datum A t.kids.length c W
theorem tst_text (w : World) : Tst nb w (.func (.func 90) #[] #[]) tText :=
  Tst.plain (enters_of Tryz.func90 (by kernel_rfl) rfl) fun W t A c _ => atext_any t.datum A t.kids.length c W
theorem tst_amount (w : World) : Tst nb w (.func (.func 89) #[] #[]) tAmount :=
  Tst.plain (enters_of Tryz.func89 (by kernel_rfl) rfl) fun W t A c hF => aamount_any t.datum A t.kids.length c W hF.own.2
theorem tst_onevar (w : World) : Tst nb w (.func (.func 105) #[] #[]) tOneVar :=
  Tst.plain (enters_of Tryz.func105 (by kernel_rfl) rfl) fun W t A c _ => aoneVariable_any t.datum A t.kids.length c W
theorem tst_member {nmd rsv : ByteArray → Bool} (hL : Lx nmd rsv) (w : World) : Tst nb w (.func (.func 98) #[] #[]) (tMember nmd) :=
  Tst.plain (enters_of Tryz.func98 (by kernel_rfl) rfl) fun W t A c hF => amember_any hL t.datum A t.kids.length c W hF.own.1
theorem tst_name {nmd rsv : ByteArray → Bool} (hL : Lx nmd rsv) (w : World) : Tst nb w (.func (.func 87) #[] #[]) (tName nmd rsv) :=
  Tst.plain (enters_of Tryz.func87 (by kernel_rfl) rfl) fun W t A c hF => aname_any hL t.datum A t.kids.length c W hF.own.1
theorem tst_onedef (w : World) : Tst nb w (.func (.func 106) #[] #[]) tOneDef :=
  ⟨106, #[], rfl, enters_of Tryz.func106 (by kernel_rfl) rfl, fun W t A c pb _ hA _ => aoneDefault_any t A c pb W hA⟩
theorem tst_closed (w : World) : Tst nb w (.func (.func 104) #[] #[]) tClosed :=
  ⟨104, #[], rfl, enters_of Tryz.func104 (by kernel_rfl) rfl, fun W t A c pb _ hA _ => (closed_loop t A c _ W hA.lt fun _ h => h.2).mono fun e w' ⟨h1, h2⟩ => ⟨h1.trans (by rw [kGStat_eq]; rfl), h2⟩⟩
theorem Tst.func {w : World} {v : Value} {p : TT} (h : Tst nb w v p) : ∃ f c, v = .func (.func f) #[] c := by
  obtain ⟨f, cf, rfl, _⟩ := h
  exact ⟨f, cf, rfl⟩
theorem Tst.one {w : World} {v : Value} {p : TT} (h : Tst nb w v p) : v.oneCell' = true := by
  obtain ⟨f, cf, rfl, _⟩ := h
  rfl
theorem new_cells {α : Type} (ks : List α) (enc : α → Value) (w : World) (ty : TypeId) : ∀ (i : Nat) (k : α), ks[i]? = some k → (w.alloc (.cells (ks.map enc).toArray ty (0, 0))).cell? ⟨w.heap.size, i, none⟩ = some (enc k) := fun i k hk => by
  have h : (w.alloc (.cells (ks.map enc).toArray ty (0, 0))).heap[w.heap.size]? = some (.cells (ks.map enc).toArray ty (0, 0)) := World.alloc_heap_new _ _
  exact cell_of_row _ _ i _ _ _ h |>.trans (by simp [hk])
/-- Values that are tests. -/
def Tsts (nb : Nat) (w : World) : List Value → List TT → Prop
  | [], [] => True
  | v :: vs, p :: ps => Tst nb w v p ∧ Tsts nb w vs ps
  | _, _ => False
theorem Tsts.nth {w : World} : ∀ {vs : List Value} {ps : List TT} {i : Nat} {p : TT}, Tsts nb w vs ps → ps[i]? = some p → ∃ v, vs[i]? = some v ∧ Tst nb w v p
  | [], [], i, p, _, h => by simp at h
  | v :: vs, q :: ps, 0, p, h, hi => by
    obtain rfl : q = p := by simpa using hi
    exact ⟨v, rfl, h.1⟩
  | v :: vs, q :: ps, i + 1, p, h, hi => by
    obtain ⟨u, h1, h2⟩ := Tsts.nth (i := i) h.2 (by simpa using hi)
    exact ⟨u, by simpa using h1, h2⟩
  | v :: vs, [], i, p, h, hi => by simp at hi
  | [], q :: ps, i, p, h, hi => by simp [Tsts] at h
theorem new_tsts {w : World} (hn : nb ≤ w.heap.size) {vs : List Value} {ps : List TT} (ty : TypeId) (h : Tsts nb w vs ps) (hl : ps.length ≤ 100) : TstS nb (w.alloc (.cells vs.toArray ty (0, 0))) (some ⟨w.heap.size, 0, none⟩) ps := by
  refine ⟨fun i p hp => ?_, hl⟩
  obtain ⟨v, h1, h2⟩ := h.nth hp
  have hb : (w.alloc (.cells vs.toArray ty (0, 0))).heap[w.heap.size]? = some (.cells vs.toArray ty (0, 0)) := World.alloc_heap_new _ _
  exact ⟨_, v, rfl, hn, (cell_of_row _ _ i _ _ _ hb).trans (by simpa using h1), h2.on (b1 _)⟩
theorem no_tsts (w : World) : TstS nb w none [] := ⟨fun i p hp => by simp at hp, by simp⟩
/-- All but the blocks from n on and block b lies as it lay. -/
structure Kx (b : Nat) (w w' : World) : Prop where
  os : w'.os = w.os
  tape : w'.tape = w.tape
  output : w'.output = w.output
  size : w.heap.size ≤ w'.heap.size
  block : ∀ k, k < w.heap.size → k ≠ b → w'.heap[k]? = w.heap[k]?
theorem Kx.refl (b : Nat) (w : World) : Kx b w w := ⟨rfl, rfl, rfl, Nat.le_refl _, fun _ _ _ => rfl⟩
theorem Kx.trans {b : Nat} {w w' w2 : World} (h : Kx b w w') (g : Kx b w' w2) : Kx b w w2 :=
  ⟨g.os.trans h.os, g.tape.trans h.tape, g.output.trans h.output, Nat.le_trans h.size g.size, fun k h1 h2 => (g.block k (Nat.lt_of_lt_of_le h1 h.size) h2).trans (h.block k h1 h2)⟩
theorem Kx.of {b : Nat} {w w' : World} (g : Below w.heap.size w w') : Kx b w w' := ⟨g.os, g.tape, g.output, g.size, fun k h1 _ => g.block k h1⟩
theorem Kx.abv {b : Nat} {w w' : World} (g : Kx b w w') (h : b < nb) : Abv nb w w' := ⟨g.size, fun k h1 h2 => g.block k h2 (by omega)⟩
theorem size_setCells (b : Nat) : ∀ (vs : List Value) (o : Nat) (w : World), (w.setCells b o vs).heap.size = w.heap.size ∧ (w.setCells b o vs).tape = w.tape
  | [], _, _ => ⟨rfl, rfl⟩
  | v :: r, o, w => by
    rw [World.setCells]
    obtain ⟨h1, h2⟩ := size_setCells b r (o + 1) (w.setCell ⟨b, o, none⟩ v)
    exact ⟨h1.trans (by simp [World.setCell]), h2.trans rfl⟩
theorem Kx.set (b o : Nat) (vs : List Value) (w : World) : Kx b w (w.setCells b o vs) :=
  ⟨World.os_setCells _ _ _ _, (size_setCells b vs o w).2, World.output_setCells _ _ _ _, Nat.le_of_eq (size_setCells b vs o w).1.symm, fun _k h1 h2 => World.heap_setCells_other w b o vs h1 h2⟩
/-- A shape's five values. -/
def ShpV (nb : Nat) (w : World) (vs : List Value) (s : Shp) : Prop :=
  ∃ v0 v1 v2 v3 v4, vs = [v0, v1, v2, v3, v4] ∧ Prt nb w v0 s.op ∧ Prt nb w v1 s.st ∧ Prt nb w v2 s.nm ∧ Prt nb w v3 s.fl ∧ Prt nb w v4 s.kd
theorem ShpV.abv {w w' : World} {vs : List Value} {s : Shp} (h : ShpV nb w vs s) (g : Abv nb w w') : ShpV nb w' vs s := by
  obtain ⟨v0, v1, v2, v3, v4, e, h0, h1, h2, h3, h4⟩ := h
  exact ⟨v0, v1, v2, v3, v4, e, h0.abv g, h1.abv g, h2.abv g, h3.abv g, h4.abv g⟩
theorem Prt.one {w : World} {v : Value} {o : Option TT} (h : Prt nb w v o) : v.oneCell' = true := by
  cases o with
  | none => obtain rfl : v = .nilFunc := h; rfl
  | some p => exact Tst.one (nb := nb) h
theorem ShpV.one {w : World} {vs : List Value} {s : Shp} (h : ShpV nb w vs s) : vs.toArray.all (·.oneCell') = true := by
  obtain ⟨v0, v1, v2, v3, v4, rfl, h0, h1, h2, h3, h4⟩ := h
  simp [h0.one, h1.one, h2.one, h3.one, h4.one]
def upd (F : Nat → Shp) (i : Nat) (s : Shp) : Nat → Shp := fun k => if k = i then s else F k
/-- The table: F of each Kind. -/
structure Tab (nb b : Nat) (F : Nat → Shp) (w : World) : Prop where
  ent : ∀ k, k < 63 → ∃ vs, w.rangeAt b (k * 5) vs ∧ ShpV nb w vs (F k)
  thr : w.there b 0 315
  lt : b < nb
  le : nb ≤ w.heap.size
theorem Tab.on {b : Nat} {F : Nat → Shp} {w w' : World} (h : Tab nb b F w) (g : Below w.heap.size w w') : Tab nb b F w' := by
  have hb : w'.heap[b]? = w.heap[b]? := g.block b (Nat.lt_of_lt_of_le h.lt h.le)
  refine ⟨fun k hk => ?_, fun j hj => ?_, h.lt, Nat.le_trans h.le g.size⟩
  · obtain ⟨vs, h1, h2⟩ := h.ent k hk
    exact ⟨vs, fun j v hv => cell_kept (h1 j v hv) g, h2.abv (Abv.of g)⟩
  · have h1 := h.thr j hj
    refine ⟨?_, ?_⟩
    · rw [World.cell?_of_block hb]
      exact h1.1
    · have h2 := h1.2
      unfold World.frozen? at h2 ⊢
      rw [show (⟨b, 0 + j, none⟩ : Addr).block = b from rfl] at h2 ⊢
      rw [hb]
      exact h2
theorem Tab.there {b : Nat} {F : Nat → Shp} {w : World} (h : Tab nb b F w) (i : Nat) (hi : i < 63) : w.there b (i * 5) 5 := fun j hj => by
  have := h.thr (i * 5 + j) (by omega)
  rw [Nat.zero_add] at this
  exact this
theorem Tab.set {b : Nat} {F : Nat → Shp} {w : World} (h : Tab nb b F w) (i : Nat) (hi : i < 63) {vs : List Value} {s : Shp} (hs : ShpV nb w vs s) : Tab nb b (upd F i s) (w.setCells b (i * 5) vs) ∧ Kx b w (w.setCells b (i * 5) vs) := by
  have hx := Kx.set b (i * 5) vs w
  have hl : vs.length = 5 := by obtain ⟨v0, v1, v2, v3, v4, rfl, _⟩ := hs; rfl
  refine ⟨⟨fun k hk => ?_, World.there_setCells h.thr b _ _, h.lt, Nat.le_trans h.le hx.size⟩, hx⟩
  unfold upd
  by_cases hki : k = i
  · subst hki
    rw [if_pos rfl]
    exact ⟨vs, World.rangeAt_setCells_same w b _ vs (by rw [hl]; exact h.there k hk), hs.abv (hx.abv h.lt)⟩
  · rw [if_neg hki]
    obtain ⟨us, h1, h2⟩ := h.ent k hk
    have hu : us.length = 5 := by obtain ⟨v0, v1, v2, v3, v4, rfl, _⟩ := h2; rfl
    exact ⟨us, World.rangeAt_setCells_apart h1 b _ vs (by omega), h2.abv (hx.abv h.lt)⟩
theorem new_shape (w : World) (v0 v1 v2 v3 v4 : Value) (ty : TypeId) : (w.alloc (.cells #[.nilFunc, .nilFunc, .nilFunc, .nilFunc, .nilFunc] ty)).there w.heap.size 0 5 ∧
    Below w.heap.size w (World.setCells (w.alloc (.cells #[.nilFunc, .nilFunc, .nilFunc, .nilFunc, .nilFunc] ty)) w.heap.size 0 (#[v0, v1, v2, v3, v4] : Array Value).toList) ∧
    (World.setCells (w.alloc (.cells #[.nilFunc, .nilFunc, .nilFunc, .nilFunc, .nilFunc] ty)) w.heap.size 0 (#[v0, v1, v2, v3, v4] : Array Value).toList).cell? ⟨w.heap.size, 0, none⟩ = some v0 ∧
    (World.setCells (w.alloc (.cells #[.nilFunc, .nilFunc, .nilFunc, .nilFunc, .nilFunc] ty)) w.heap.size 0 (#[v0, v1, v2, v3, v4] : Array Value).toList).cell? ⟨w.heap.size, 1, none⟩ = some v1 ∧
    (World.setCells (w.alloc (.cells #[.nilFunc, .nilFunc, .nilFunc, .nilFunc, .nilFunc] ty)) w.heap.size 0 (#[v0, v1, v2, v3, v4] : Array Value).toList).cell? ⟨w.heap.size, 2, none⟩ = some v2 ∧
    (World.setCells (w.alloc (.cells #[.nilFunc, .nilFunc, .nilFunc, .nilFunc, .nilFunc] ty)) w.heap.size 0 (#[v0, v1, v2, v3, v4] : Array Value).toList).cell? ⟨w.heap.size, 3, none⟩ = some v3 ∧
    (World.setCells (w.alloc (.cells #[.nilFunc, .nilFunc, .nilFunc, .nilFunc, .nilFunc] ty)) w.heap.size 0 (#[v0, v1, v2, v3, v4] : Array Value).toList).cell? ⟨w.heap.size, 4, none⟩ = some v4 := by
  have hw : (w.alloc (.cells #[.nilFunc, .nilFunc, .nilFunc, .nilFunc, .nilFunc] ty)).heap[w.heap.size]? = some (.cells #[.nilFunc, .nilFunc, .nilFunc, .nilFunc, .nilFunc] ty (0, 0)) := World.alloc_heap_new _ _
  obtain ⟨u, hu⟩ : ∃ u, w.alloc (.cells #[.nilFunc, .nilFunc, .nilFunc, .nilFunc, .nilFunc] ty) = u := ⟨_, rfl⟩
  have hb : Below w.heap.size w u := by rw [← hu]; exact b1 _
  have hz : u.heap.size = w.heap.size + 1 := by rw [← hu]; simp
  rw [hu] at hw ⊢
  have ht : u.there w.heap.size 0 5 := fun j hj => by
    refine ⟨?_, ?_⟩
    · have := cell_of_row u w.heap.size (0 + j) _ _ _ hw
      rw [this]
      have : j = 0 ∨ j = 1 ∨ j = 2 ∨ j = 3 ∨ j = 4 := by omega
      rcases this with rfl | rfl | rfl | rfl | rfl <;> rfl
    · unfold World.frozen?
      rw [show (⟨w.heap.size, 0 + j, none⟩ : Addr).block = w.heap.size from rfl, hw]
      simp
  have hr := World.rangeAt_setCells_same u w.heap.size 0 [v0, v1, v2, v3, v4] ht
  have hx := Kx.set w.heap.size 0 [v0, v1, v2, v3, v4] u
  refine ⟨ht, ⟨hx.os.trans hb.os, hx.tape.trans hb.tape, hx.output.trans hb.output, Nat.le_trans hb.size hx.size, fun k hk => (hx.block k (by omega) (by omega)).trans (hb.block k hk)⟩, ?_, ?_, ?_, ?_, ?_⟩
  · exact hr 0 v0 rfl
  · exact hr 1 v1 rfl
  · exact hr 2 v2 rfl
  · exact hr 3 v3 rfl
  · exact hr 4 v4 rfl
end Go.Proofs.YtfpmhahjemdodaaGreatDoor
