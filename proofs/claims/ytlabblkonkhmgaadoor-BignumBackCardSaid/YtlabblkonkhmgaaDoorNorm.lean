/-
  Contracts of own, of Norm of the program and of the reference.
-/
import Derived.Test.YtlabblkonkhmgaaDoorCut
import Derived.Deep.AppendLies
namespace Go.Proofs.YtlabblkonkhmgaaDoor
open Go.RowKit
theorem infoW : (Tryd.prog.info? 42).map (fun i => (i.zero, i.size, i.bytes)) = some (some (.int .u32 0), 1, 4) := by kernel_rfl
/-- A row of the call's own that holds the words l. -/
abbrev OwnW (B : Nat) (l : List Nat) (v : Value) (w : World) : Prop := w.ownsRow B 42 1 v l.length (l.map fun u => Value.int .u32 (u : Nat))
theorem OwnW.nil (B : Nat) (w : World) : OwnW B [] (.slice none 0 0) w := World.ownsRow_nil _ _ _ _
theorem OwnW.sl {B : Nat} {l : List Nat} {v : Value} {w : World} (h : OwnW B l v w) (hw : Ws l) : Sl w w.heap.size v l := by
  rcases h.2 with ⟨rfl, h0⟩ | ⟨g, cap, cur, rfl, hB, hg, hcap, hmax, hcur, htk⟩
  · obtain rfl : l = [] := List.eq_nil_of_length_eq_zero h0
    exact Sl.nil _ _ _
  · refine ⟨_, cap, rfl, hcap, hw, fun hl => ⟨g, 0, rfl, (World.ownsRow.lt h g rfl).2, fun k u hu => ?_⟩⟩
    have := h.cells (g := g) rfl k (.int .u32 (u : Nat)) (by rw [List.getElem?_map, hu]; rfl)
    by_cases hz : k = 0
    · subst hz; simpa [Addr.add] using this
    · simpa [Addr.add, hz] using this
theorem OwnW.cap {B : Nat} {l : List Nat} {A : Option Addr} {n c : Nat} {w : World} (h : OwnW B l (.slice A n c) w) : n = l.length ∧ n ≤ c := by
  rcases h.2 with ⟨e, h0⟩ | ⟨g, cap, cur, e, hB, hg, hcap, hmax, hcur, htk⟩
  · cases e; exact ⟨by omega, Nat.le_refl _⟩
  · cases e; exact ⟨rfl, hcap⟩
/-- append of nothing. -/
theorem run_append_zero {P : Program} {w : World} (base : Nat) (t ty e : TypeId) (i : TypeInfo) (ht : P.underlying t = some (.slice e)) (hi : P.info? e = some i)
    (v : Value) (n : Nat) (xs : List Value) (size : Nat) (hown : w.ownsRow base e size v n xs) (c : Nat) : (Builtin.append_ #[t, t] ty #[v, .slice none 0 c]).run P w = .ok v w := by
  rcases hown.2 with ⟨rfl, rfl⟩ | ⟨g, cap, cur, rfl, _, _, hnc, _⟩
  · simp [Builtin.append_, run_underlying ht, sizeOf, typeInfo, hi, Builtin.lenOf, Builtin.firstCells]
  · simp [Builtin.append_, run_underlying ht, sizeOf, typeInfo, hi, Builtin.lenOf, Builtin.firstCells, hnc, storeCells]
theorem wp_append_zero {P : Program} {w : World} {ops : Array Oper} {rest : List Oper} {o : Oper} {a : Act} {Q : Exit → Act → World → Prop} (hgd : o.guard = none) (s x : Operand) (t : TypeId)
    (ho : o.op = .call { callee := .builtin .append, args := #[s, x], argTypes := #[t, t] })
    (base : Nat) (e : TypeId) (i : TypeInfo) (size : Nat) (ht : P.underlying t = some (.slice e)) (hi : P.info? e = some i)
    (v : Value) (n : Nat) (xs : List Value) (c : Nat) (hs : a.eval s = v) (hown : w.ownsRow base e size v n xs) (hx : a.eval x = .slice none 0 c)
    (h : wpList P ops Q rest (a.put o.dst v) w) : wpList P ops Q (o :: rest) a w := by
  refine wpList_plain hgd fun K hK => ?_
  have hrun := run_append_zero (P := P) (w := w) base t o.type e i ht hi v n xs size hown c
  unfold Oper.wp
  simp [execOp, ho, resolve, invoke, builtin, hs, hx, hrun, Result.andThen]
  exact hK _ _ h
theorem rw_news {w : World} {b off : Nat} {l : List Nat} (h : ∀ k u : Nat, l[k]? = some u → w.cell? ⟨b, off + k, none⟩ = some (.int .u32 (u : Int))) :
    ∀ (j : Nat) u, (l.map fun u => Value.int .u32 (u : Nat))[j]? = some u → w.cell? ((⟨b, off, none⟩ : Addr).add j) = some u := by
  intro j u hu
  rw [List.getElem?_map] at hu
  cases e : l[j]? with
  | none => rw [e] at hu; cases hu
  | some x =>
    rw [e] at hu
    simp only [Option.map_some, Option.some.injEq] at hu
    subst hu
    have := h j x e
    by_cases hz : j = 0
    · subst hz; simpa [Addr.add] using this
    · simpa [Addr.add, hz] using this
theorem rw_one (l : List Nat) : ∀ u ∈ (l.map fun u => Value.int .u32 (u : Nat)), u.oneCell' = true := by
  intro u hu
  simp only [List.mem_map] at hu
  obtain ⟨x, _, rfl⟩ := hu
  rfl
def OwnPost (l : List Nat) (w : World) (e : Ending) (w' : World) : Prop := ∃ v, e = .returned v ∧ OwnW w.heap.size l v w' ∧ Below w.heap.size w w'
set_option maxHeartbeats 1000000 in
theorem own_any (A : Option Addr) (n c : Nat) (l : List Nat) (w : World) (hn : l.length = n) (hm : n ≤ 35184372088832) (h : RW w w.heap.size A l) :
    Calls Tryd.prog 7 #[.slice A n c] w (OwnPost l w) := by
  obtain ⟨i0, hi, hz0, hz1, hz2⟩ := info_parts infoW
  rcases A with _ | ad
  · have h0 : l = [] := by
      cases l with
      | nil => rfl
      | cons x r =>
        obtain ⟨b, off, e, _⟩ := h.2 (by simp)
        cases e
    subst h0
    subst hn
    go_enter Tryd.func7, Tryd.ntmps7
    go_wp2_with (at_builtin; refine wp_append_zero rfl _ _ 22 rfl w.heap.size 42 i0 1 Tryd.underlying22 hi _ 0 [] c rfl (World.ownsRow_nil _ _ _ _) rfl ?_)
    go_ret
    exact ⟨_, rfl, OwnW.nil _ _, Below.refl _ _⟩
  · have hcs : ∀ (j : Nat) u, (l.map fun u => Value.int .u32 (u : Nat))[j]? = some u → w.cell? (ad.add j) = some u := by
      rcases Nat.eq_zero_or_pos l.length with h0 | h0
      · obtain rfl : l = [] := List.eq_nil_of_length_eq_zero h0
        intro j u hu
        simp at hu
      · obtain ⟨b, off, e, _, hc⟩ := h.2 h0
        cases e
        exact rw_news hc
    have HC := Lib.hid hcs
    have HN := Lib.hid hn
    have HM := Lib.hid hm
    clear h hcs hn hm
    go_enter Tryd.func7, Tryd.ntmps7
    go_wp2_with (at_builtin; refine wpList_append_own _ rfl _ _ 22 rfl w.heap.size 42 i0 (.int .u32 0) 1 4 Tryd.underlying22 hi hz0 hz1 hz2 rfl (by decide) _ 0 [] rfl (World.ownsRow_nil _ _ _ _) ad n c (l.map fun u => Value.int .u32 (u : Nat)) rfl ?c0 ?c1 ?c2 ?c3 ?c4 ?c5 ?_)
    case c0 => have := HN.out; simp; omega
    case c1 => exact HC.out
    case c2 => exact rw_one l
    case c3 => have := HM.out; unfold maxLen; omega
    case c4 => have := HM.out; omega
    case c5 => exact Nat.le_refl _
    intro v' w1 hown hg _
    have HO := Lib.hid hown
    clear hown
    go_wp2
    go_ret
    refine ⟨_, rfl, ?_, (Below.refl _ _).grown hg (Nat.le_refl _) (fun k hk => by simp [Value.ownBlock] at hk)⟩
    have := HO.out
    rw [← HN.out] at this
    exact this
theorem OwnW.of_block {B g : Nat} {l : List Nat} {w : World} (hB : B ≤ g) (hl : l.length ≤ maxLen) (h : w.heap[g]? = some (.cells (l.map fun u => Value.int .u32 (u : Nat)).toArray 42 (0, 0))) :
    OwnW B l (.slice (some ⟨g, 0, none⟩) l.length l.length) w :=
  ⟨by simp, .inr ⟨g, l.length, _, rfl, hB, h, Nat.le_refl _, hl, by simp, by rw [List.toList_toArray]; exact List.take_of_length_le (by simp)⟩⟩
set_option maxHeartbeats 1000000 in
theorem norm_any (A : Option Addr) (n c : Nat) (l : List Nat) (w : World) (hn : l.length = n) (hc : n ≤ c) (hm : n ≤ 35184372088832) (h : RW w w.heap.size A l) :
    Calls Tryd.prog 21 #[.slice A n c] w (OwnPost (nrm l) w) := by
  have c1 := fun W (h : RW W w.heap.size A l) => cut_any A n c l w.heap.size W hn hc hm h
  obtain ⟨m, hm0⟩ : ∃ m, (nrm l).length = m := ⟨_, rfl⟩
  have hle : m ≤ n := by rw [← hm0, ← hn]; exact nrm_len l
  rw [hm0] at c1
  have hmk := run_make_row' (P := Tryd.prog) 22 42 (.int .u32 0) 4 Tryd.underlying22 infoW rfl .i64 .i64 m (by omega) (by omega) w
  have hmade := World.rowIs_made w (.int .u32 0) m 42
  have HC := Lib.hid (h.nrm)
  have HM := Lib.hid hm0
  have hm1 : (m : Int) ≤ 35184372088832 := by omega
  have HR := Lib.hid h
  have HX := Lib.hid hmade
  clear h hn hc hm hm0 hle hmade
  go_enter Tryd.func21, Tryd.ntmps21
  go_wp2_with (first | (go_at_call 24; refine (c1 _ HR.out).mono ?_; rintro e w' ⟨rfl, rfl⟩) | (with_reducible refine wpList_copy_splice rfl (.tmp 9) (.tmp 10) 22 22 rfl 42 Tryd.underlying22 (by kernel_rfl) (some ⟨w.heap.size, 0, none⟩) A m m m m ?e1 ?e2 w.heap.size 0 (List.replicate m (.int .u32 0)) 42 ?k1 ((nrm l).map fun u => Value.int .u32 (u : Nat)) ?k2 ?k3 ?k4 ?k5 w.heap.size w ?k6 (Nat.le_refl _) ?_))
  case e1 => rfl
  case e2 => rfl
  case k1 =>
    have e := heap_alloc_new w (.cells (madeCells #[Value.int .u32 0] m) 42)
    rw [show madeCells #[Value.int .u32 0] m = (List.replicate m (Value.int .u32 0)).toArray from Array.toList_inj.1 (by rw [toList_madeCells_one, List.toList_toArray])] at e ⊢
    exact e
  case k2 => rw [List.length_map, HM.out]; exact (Nat.min_self _).symm
  case k3 =>
    intro hp
    have hp' : 0 < (nrm l).length := by simpa using hp
    obtain ⟨b, off, e, hb, hc⟩ := HC.out.2 hp'
    refine ⟨⟨b, off, none⟩, e, fun j u hu => ?_⟩
    rw [World.cell?_alloc_lt]
    · exact rw_news hc j _ (by rw [List.getElem?_map, hu]; rfl)
    · unfold Addr.add; split <;> exact hb
  case k4 => rw [List.length_map, HM.out, List.length_replicate]; omega
  case k5 => exact rw_one _
  case k6 => exact (Below.refl _ _).alloc (Nat.le_refl _) _
  intro w2 HG2 hB2
  go_wp2
  go_ret
  refine ⟨_, rfl, ?_⟩
  have hG := HG2.out
  have e : splice (List.replicate m (Value.int .u32 0)) 0 ((nrm l).map fun u => Value.int .u32 (u : Nat)) = (nrm l).map fun u => Value.int .u32 (u : Nat) := by
    unfold splice
    rw [List.take_zero, List.nil_append, List.drop_of_length_le (by rw [List.length_replicate, List.length_map, HM.out]; omega), List.append_nil]
  rw [e] at hG
  have := OwnW.of_block (B := w.heap.size) (Nat.le_refl _) (by rw [HM.out]; unfold maxLen; omega) hG
  rw [HM.out] at this
  exact ⟨this, hB2⟩
set_option maxHeartbeats 1000000 in
theorem rnorm_zero (A : Option Addr) (c : Nat) (w : World) : Calls Tryd.prog 18 #[.slice A 0 c] w (OwnPost [] w) := by
  obtain ⟨i0, hi, hz0, hz1, hz2⟩ := info_parts infoW
  rcases A with _ | ad
  · go_enter Tryd.func18, Tryd.ntmps18
    go_wp2
    go_loop [3] (fun i => i = .int .i64 0) (fun _ => 0)
    case atStart => exact rfl
    case round =>
      obtain rfl := hrel
      go_wp2_with (at_builtin; refine wp_append_zero rfl _ _ 22 rfl w.heap.size 42 i0 1 Tryd.underlying22 hi _ 0 [] c rfl (World.ownsRow_nil _ _ _ _) rfl ?_)
      go_ret
      exact ⟨_, rfl, OwnW.nil _ _, Below.refl _ _⟩
  · go_enter Tryd.func18, Tryd.ntmps18
    go_wp2
    go_loop [3] (fun i => i = .int .i64 0) (fun _ => 0)
    case atStart => exact rfl
    case round =>
      obtain rfl := hrel
      go_wp2_with (at_builtin; refine wpList_append_own _ rfl _ _ 22 rfl w.heap.size 42 i0 (.int .u32 0) 1 4 Tryd.underlying22 hi hz0 hz1 hz2 rfl (by decide) _ 0 [] rfl (World.ownsRow_nil _ _ _ _) ad 0 c [] rfl rfl (fun j u hu => by simp at hu) (fun u hu => by simp at hu) (by unfold maxLen; omega) (by omega) (Nat.le_refl _) ?_)
      intro v' w1 hown hg _
      have HO := Lib.hid hown
      clear hown
      go_wp2
      go_ret
      exact ⟨_, rfl, HO.out, (Below.refl _ _).grown hg (Nat.le_refl _) (fun k hk => by simp [Value.ownBlock] at hk)⟩
set_option maxHeartbeats 2000000 in
theorem rnorm_some (b off n c : Nat) (l : List Nat) (w : World) (hn : l.length = n) (hc : n ≤ c) (hm : n ≤ 35184372088832) (h : ∀ k u : Nat, l[k]? = some u → w.cell? ⟨b, off + k, none⟩ = some (.int .u32 (u : Int))) :
    Calls Tryd.prog 18 #[.slice (some ⟨b, off, none⟩) n c] w (OwnPost (nrm l) w) := by
  obtain ⟨i0, hi, hz0, hz1, hz2⟩ := info_parts infoW
  have HN := Lib.hid hn
  have HC := Lib.hid h
  have hm1 : (n : Int) ≤ 35184372088832 := by omega
  have hc1 : (n : Int) ≤ (c : Int) := by omega
  clear hn h
  have last : ∀ k : Nat, k ≤ n → Hid (nrm l = l.take k) → ∀ (v' : Value) (w1 : World), w1.ownsRow w.heap.size 42 1 v' k ((l.take k).map fun u => Value.int .u32 (u : Nat)) → w.grownBy w1 (Value.ownBlock (.slice none 0 0)) → OwnPost (nrm l) w (.returned v') w1 := by
    intro k hk HE v' w1 hown hg
    refine ⟨v', rfl, ?_, (Below.refl _ _).grown hg (Nat.le_refl _) (fun k hk => by simp [Value.ownBlock] at hk)⟩
    rw [HE.out]
    have e : (l.take k).length = k := by rw [List.length_take, HN.out]; omega
    unfold OwnW
    rw [e]
    exact hown
  have hnews : ∀ k : Nat, ∀ (j : Nat) u, ((l.take k).map fun u => Value.int .u32 (u : Nat))[j]? = some u → w.cell? ((⟨b, off, none⟩ : Addr).add j) = some u := by
    intro k
    refine rw_news (fun i u hu => HC.out i u ?_)
    rw [List.getElem?_take] at hu
    split at hu
    · exact hu
    · cases hu
  have hlen : ∀ k : Nat, k ≤ n → ((l.take k).map fun u => Value.int .u32 (u : Nat)).length = k * 1 := fun k hk => by
    rw [List.length_map, List.length_take, HN.out]; omega
  have LAST := Lib.hid last
  have NEWS := Lib.hid hnews
  have LEN := Lib.hid hlen
  clear last hnews hlen
  go_enter Tryd.func18, Tryd.ntmps18
  go_wp2
  go_loop [3] (fun i => ∃ k : Nat, i = .int .i64 k ∧ k ≤ n ∧ Hid (∀ j, k ≤ j → j < l.length → l.getD j 0 = 0)) (fun i => (intOf i).toNat)
  case atStart => exact ⟨n, rfl, Nat.le_refl _, Lib.hid (fun j h1 h2 => by have := HN.out; omega)⟩
  case round =>
    obtain ⟨k, rfl, hk, HZ⟩ := hrel
    by_cases h0 : k = 0
    · have HE := Lib.hid (show nrm l = l.take k from nrm_of l k (by have := HN.out; omega) HZ.out (.inl h0))
      subst h0
      go_wp2_with (at_builtin; refine wpList_append_own _ rfl _ _ 22 rfl w.heap.size 42 i0 (.int .u32 0) 1 4 Tryd.underlying22 hi hz0 hz1 hz2 rfl (by decide) _ 0 [] rfl (World.ownsRow_nil _ _ _ _) ⟨b, off, none⟩ 0 c ((l.take 0).map fun u => Value.int .u32 (u : Nat)) rfl (LEN.out 0 hk) (NEWS.out 0) (rw_one _) (by unfold maxLen; omega) (by omega) (Nat.le_refl _) ?_)
      intro v' w1 hown hg _
      have HO := Lib.hid (LAST.out 0 hk HE v' w1 (by simpa using hown) hg)
      clear hown
      go_wp2
      go_ret
      exact HO.out
    · obtain ⟨j, rfl⟩ : ∃ j, k = j + 1 := ⟨k - 1, by omega⟩
      have hj : j < l.length := by have := HN.out; omega
      have hcell := HC.out j _ (getD_some hj)
      have h1 : (j : Int) < (n : Int) := by omega
      by_cases hz : l.getD j 0 = 0
      · rw [hz] at hcell
        have HZ2 := Lib.hid (show ∀ i, j ≤ i → i < l.length → l.getD i 0 = 0 from fun i h2 h3 => by
          by_cases h4 : i = j
          · rw [h4]; exact hz
          · exact HZ.out i (by omega) h3)
        clear hz hj
        go_wp2
        go_round
        case rel => exact ⟨j, by go_num, by omega, HZ2⟩
        case measure => simp [intOf]
      · have HE := Lib.hid (show nrm l = l.take (j + 1) from nrm_of l (j + 1) (by omega) HZ.out (.inr (by simpa using hz)))
        obtain ⟨u, hu⟩ : ∃ u, l.getD j 0 = u := ⟨_, rfl⟩
        rw [hu] at hcell hz
        have hz' : ((u : Int) == 0) = false := by simp; omega
        have hjc : (j : Int) + 1 ≤ (c : Int) := by omega
        clear hu hj
        go_wp2_with (at_builtin; refine wpList_append_own _ rfl _ _ 22 rfl w.heap.size 42 i0 (.int .u32 0) 1 4 Tryd.underlying22 hi hz0 hz1 hz2 rfl (by decide) _ 0 [] rfl (World.ownsRow_nil _ _ _ _) ⟨b, off, none⟩ (j + 1) c ((l.take (j + 1)).map fun u => Value.int .u32 (u : Nat)) rfl (LEN.out (j + 1) hk) (NEWS.out (j + 1)) (rw_one _) (by unfold maxLen; omega) (by omega) (Nat.le_refl _) ?_)
        intro v' w1 hown hg _
        have HO := Lib.hid (LAST.out (j + 1) hk HE v' w1 (by simpa using hown) hg)
        clear hown
        go_wp2
        go_ret
        exact HO.out
theorem rnorm_any (A : Option Addr) (n c : Nat) (l : List Nat) (B : Nat) (w : World) (hn : l.length = n) (hc : n ≤ c) (hm : n ≤ 35184372088832) (h : RW w B A l) :
    Calls Tryd.prog 18 #[.slice A n c] w (OwnPost (nrm l) w) := by
  rcases Nat.eq_zero_or_pos n with h0 | h0
  · subst h0
    obtain rfl : l = [] := List.eq_nil_of_length_eq_zero hn
    exact rnorm_zero A c w
  · obtain ⟨b, off, rfl, _, hcell⟩ := h.2 (by omega)
    exact rnorm_some b off n c l w hn hc hm hcell
end Go.Proofs.YtlabblkonkhmgaaDoor
