/-
  Contracts of cut, and of the two functions that tell a word. Contracts of own, of Norm of the program and of the reference. Contracts of the two functions that tell a word, of the comparison of lists, of Of of both, of Long and tooLong, answer and checked. Rows of words that a call may write. Contract of addTimes: a list of words times a word, added to a part of a row. Contract of addTimes, once more: nothing but its row changes. Contracts of Long, checked, tooLong and answer. Contract of Mul of the program, and of the law's awake. Contract of word; a word appended to a row of the call's own. A call that tells words in a slice. Plain lemmas: a natural divided by a word, word by word.
-/
import Derived.Test.YtbinpcoaghpcdaaMem
import Derived.Test.YtbinpcoaghpcdaaPlain
import Derived.Deep.AppendLies
namespace Go.Proofs.Ytbinpcoaghpcdaa
open Go.RowKit
theorem RW.nrm {w : World} {B : Nat} {A : Option Addr} {l : List Nat} (h : RW w B A l) : RW w B A (nrm l) := by rw [nrm_take]; exact h.take _
end Go.Proofs.Ytbinpcoaghpcdaa
namespace Go.Proofs.Ytbinpcoaghpcdaa
open Go.RowKit
theorem infoW : (Try.prog.info? 69).map (fun i => (i.zero, i.size, i.bytes)) = some (some (.int .u32 0), 1, 4) := by kernel_rfl
/-- A row of the call's own that holds the words l. -/
abbrev OwnW (B : Nat) (l : List Nat) (v : Value) (w : World) : Prop := w.ownsRow B 69 1 v l.length (l.map fun u => Value.int .u32 (u : Nat))
theorem OwnW.nil (B : Nat) (w : World) : OwnW B [] (.slice none 0 0) w := World.ownsRow_nil _ _ _ _
theorem OwnW.sl {B : Nat} {l : List Nat} {v : Value} {w : World} (h : OwnW B l v w) (hw : Ws l) : Sl w w.heap.size v l := by
  rcases h.2 with ⟨rfl, h0⟩ | ⟨g, cap, cur, rfl, hB, hg, hcap, hmax, hcur, htk⟩
  · obtain rfl : l = [] := List.eq_nil_of_length_eq_zero h0
    exact Sl.nil _ _ _
  · refine ⟨_, cap, rfl, hcap, hw, fun hl => ⟨g, 0, rfl, (World.ownsRow.lt h g rfl).2, fun k u hu => ?_⟩⟩
    have := h.cells (g := g) rfl k (.int .u32 (u : Nat)) (by rw [List.getElem?_map, hu]; rfl)
    by_cases hz : k = 0
    · subst hz; simpa [Addr.add] using this
    · simpa [Addr.add, hz] using this
theorem OwnW.cap {B : Nat} {l : List Nat} {A : Option Addr} {n c : Nat} {w : World} (h : OwnW B l (.slice A n c) w) : n = l.length ∧ n ≤ c := by
  rcases h.2 with ⟨e, h0⟩ | ⟨g, cap, cur, e, hB, hg, hcap, hmax, hcur, htk⟩
  · cases e; exact ⟨by omega, Nat.le_refl _⟩
  · cases e; exact ⟨rfl, hcap⟩
/-- append of nothing. -/
theorem run_append_zero {P : Program} {w : World} (base : Nat) (t ty e : TypeId) (i : TypeInfo) (ht : P.underlying t = some (.slice e)) (hi : P.info? e = some i)
    (v : Value) (n : Nat) (xs : List Value) (size : Nat) (hown : w.ownsRow base e size v n xs) (c : Nat) : (Builtin.append_ #[t, t] ty #[v, .slice none 0 c]).run P w = .ok v w := by
  rcases hown.2 with ⟨rfl, rfl⟩ | ⟨g, cap, cur, rfl, _, _, hnc, _⟩
  · simp [Builtin.append_, run_underlying ht, sizeOf, typeInfo, hi, Builtin.lenOf, Builtin.firstCells]
  · simp [Builtin.append_, run_underlying ht, sizeOf, typeInfo, hi, Builtin.lenOf, Builtin.firstCells, hnc, storeCells]
theorem wp_append_zero {P : Program} {w : World} {ops : Array Oper} {rest : List Oper} {o : Oper} {a : Act} {Q : Exit → Act → World → Prop} (hgd : o.guard = none) (s x : Operand) (t : TypeId)
    (ho : o.op = .call { callee := .builtin .append, args := #[s, x], argTypes := #[t, t] })
    (base : Nat) (e : TypeId) (i : TypeInfo) (size : Nat) (ht : P.underlying t = some (.slice e)) (hi : P.info? e = some i)
    (v : Value) (n : Nat) (xs : List Value) (c : Nat) (hs : a.eval s = v) (hown : w.ownsRow base e size v n xs) (hx : a.eval x = .slice none 0 c)
    (h : wpList P ops Q rest (a.put o.dst v) w) : wpList P ops Q (o :: rest) a w := by
  refine wpList_plain hgd fun K hK => ?_
  have hrun := run_append_zero (P := P) (w := w) base t o.type e i ht hi v n xs size hown c
  unfold Oper.wp
  simp [execOp, ho, resolve, invoke, builtin, hs, hx, hrun, Result.andThen]
  exact hK _ _ h
theorem rw_news {w : World} {b off : Nat} {l : List Nat} (h : ∀ k u : Nat, l[k]? = some u → w.cell? ⟨b, off + k, none⟩ = some (.int .u32 (u : Int))) :
    ∀ (j : Nat) u, (l.map fun u => Value.int .u32 (u : Nat))[j]? = some u → w.cell? ((⟨b, off, none⟩ : Addr).add j) = some u := by
  intro j u hu
  rw [List.getElem?_map] at hu
  cases e : l[j]? with
  | none => rw [e] at hu; cases hu
  | some x =>
    rw [e] at hu
    simp only [Option.map_some, Option.some.injEq] at hu
    subst hu
    have := h j x e
    by_cases hz : j = 0
    · subst hz; simpa [Addr.add] using this
    · simpa [Addr.add, hz] using this
theorem rw_one (l : List Nat) : ∀ u ∈ (l.map fun u => Value.int .u32 (u : Nat)), u.oneCell' = true := by
  intro u hu
  simp only [List.mem_map] at hu
  obtain ⟨x, _, rfl⟩ := hu
  rfl
def OwnPost (l : List Nat) (w : World) (e : Ending) (w' : World) : Prop := ∃ v, e = .returned v ∧ OwnW w.heap.size l v w' ∧ Below w.heap.size w w'
theorem OwnW.of_block {B g : Nat} {l : List Nat} {w : World} (hB : B ≤ g) (hl : l.length ≤ maxLen) (h : w.heap[g]? = some (.cells (l.map fun u => Value.int .u32 (u : Nat)).toArray 69 (0, 0))) :
    OwnW B l (.slice (some ⟨g, 0, none⟩) l.length l.length) w :=
  ⟨by simp, .inr ⟨g, l.length, _, rfl, hB, h, Nat.le_refl _, hl, by simp, by rw [List.toList_toArray]; exact List.take_of_length_le (by simp)⟩⟩
set_option maxHeartbeats 1000000 in
theorem rnorm_zero (A : Option Addr) (c : Nat) (w : World) : Calls Try.prog 109 #[.slice A 0 c] w (OwnPost [] w) := by
  obtain ⟨i0, hi, hz0, hz1, hz2⟩ := info_parts infoW
  rcases A with _ | ad
  · go_enter Try.func109, Try.ntmps109
    go_wp2
    go_loop [3] (fun i => i = .int .i64 0) (fun _ => 0)
    case atStart => exact rfl
    case round =>
      obtain rfl := hrel
      go_wp2_with (at_builtin; refine wp_append_zero rfl _ _ 61 rfl w.heap.size 69 i0 1 Try.underlying61 hi _ 0 [] c rfl (World.ownsRow_nil _ _ _ _) rfl ?_)
      go_ret
      exact ⟨_, rfl, OwnW.nil _ _, Below.refl _ _⟩
  · go_enter Try.func109, Try.ntmps109
    go_wp2
    go_loop [3] (fun i => i = .int .i64 0) (fun _ => 0)
    case atStart => exact rfl
    case round =>
      obtain rfl := hrel
      go_wp2_with (at_builtin; refine wpList_append_own _ rfl _ _ 61 rfl w.heap.size 69 i0 (.int .u32 0) 1 4 Try.underlying61 hi hz0 hz1 hz2 rfl (by decide) _ 0 [] rfl (World.ownsRow_nil _ _ _ _) ad 0 c [] rfl rfl (fun j u hu => by simp at hu) (fun u hu => by simp at hu) (by unfold maxLen; omega) (by omega) (Nat.le_refl _) ?_)
      intro v' w1 hown hg _
      have HO := Lib.hid hown
      clear hown
      go_wp2
      go_ret
      exact ⟨_, rfl, HO.out, (Below.refl _ _).grown hg (Nat.le_refl _) (fun k hk => by simp [Value.ownBlock] at hk)⟩
set_option maxHeartbeats 2000000 in
theorem rnorm_some (b off n c : Nat) (l : List Nat) (w : World) (hn : l.length = n) (hc : n ≤ c) (hm : n ≤ 35184372088832) (h : ∀ k u : Nat, l[k]? = some u → w.cell? ⟨b, off + k, none⟩ = some (.int .u32 (u : Int))) :
    Calls Try.prog 109 #[.slice (some ⟨b, off, none⟩) n c] w (OwnPost (nrm l) w) := by
  obtain ⟨i0, hi, hz0, hz1, hz2⟩ := info_parts infoW
  have HN := Lib.hid hn
  have HC := Lib.hid h
  have hm1 : (n : Int) ≤ 35184372088832 := by omega
  have hc1 : (n : Int) ≤ (c : Int) := by omega
  clear hn h
  have last : ∀ k : Nat, k ≤ n → Hid (nrm l = l.take k) → ∀ (v' : Value) (w1 : World), w1.ownsRow w.heap.size 69 1 v' k ((l.take k).map fun u => Value.int .u32 (u : Nat)) → w.grownBy w1 (Value.ownBlock (.slice none 0 0)) → OwnPost (nrm l) w (.returned v') w1 := by
    intro k hk HE v' w1 hown hg
    refine ⟨v', rfl, ?_, (Below.refl _ _).grown hg (Nat.le_refl _) (fun k hk => by simp [Value.ownBlock] at hk)⟩
    rw [HE.out]
    have e : (l.take k).length = k := by rw [List.length_take, HN.out]; omega
    unfold OwnW
    rw [e]
    exact hown
  have hnews : ∀ k : Nat, ∀ (j : Nat) u, ((l.take k).map fun u => Value.int .u32 (u : Nat))[j]? = some u → w.cell? ((⟨b, off, none⟩ : Addr).add j) = some u := by
    intro k
    refine rw_news (fun i u hu => HC.out i u ?_)
    rw [List.getElem?_take] at hu
    split at hu
    · exact hu
    · cases hu
  have hlen : ∀ k : Nat, k ≤ n → ((l.take k).map fun u => Value.int .u32 (u : Nat)).length = k * 1 := fun k hk => by
    rw [List.length_map, List.length_take, HN.out]; omega
  have LAST := Lib.hid last
  have NEWS := Lib.hid hnews
  have LEN := Lib.hid hlen
  clear last hnews hlen
  go_enter Try.func109, Try.ntmps109
  go_wp2
  go_loop [3] (fun i => ∃ k : Nat, i = .int .i64 k ∧ k ≤ n ∧ Hid (∀ j, k ≤ j → j < l.length → l.getD j 0 = 0)) (fun i => (intOf i).toNat)
  case atStart => exact ⟨n, rfl, Nat.le_refl _, Lib.hid (fun j h1 h2 => by have := HN.out; omega)⟩
  case round =>
    obtain ⟨k, rfl, hk, HZ⟩ := hrel
    by_cases h0 : k = 0
    · have HE := Lib.hid (show nrm l = l.take k from nrm_of l k (by have := HN.out; omega) HZ.out (.inl h0))
      subst h0
      go_wp2_with (at_builtin; refine wpList_append_own _ rfl _ _ 61 rfl w.heap.size 69 i0 (.int .u32 0) 1 4 Try.underlying61 hi hz0 hz1 hz2 rfl (by decide) _ 0 [] rfl (World.ownsRow_nil _ _ _ _) ⟨b, off, none⟩ 0 c ((l.take 0).map fun u => Value.int .u32 (u : Nat)) rfl (LEN.out 0 hk) (NEWS.out 0) (rw_one _) (by unfold maxLen; omega) (by omega) (Nat.le_refl _) ?_)
      intro v' w1 hown hg _
      have HO := Lib.hid (LAST.out 0 hk HE v' w1 (by simpa using hown) hg)
      clear hown
      go_wp2
      go_ret
      exact HO.out
    · obtain ⟨j, rfl⟩ : ∃ j, k = j + 1 := ⟨k - 1, by omega⟩
      have hj : j < l.length := by have := HN.out; omega
      have hcell := HC.out j _ (getD_some hj)
      have h1 : (j : Int) < (n : Int) := by omega
      by_cases hz : l.getD j 0 = 0
      · rw [hz] at hcell
        have HZ2 := Lib.hid (show ∀ i, j ≤ i → i < l.length → l.getD i 0 = 0 from fun i h2 h3 => by
          by_cases h4 : i = j
          · rw [h4]; exact hz
          · exact HZ.out i (by omega) h3)
        clear hz hj
        go_wp2
        go_round
        case rel => exact ⟨j, by go_num, by omega, HZ2⟩
        case measure => simp [intOf]
      · have HE := Lib.hid (show nrm l = l.take (j + 1) from nrm_of l (j + 1) (by omega) HZ.out (.inr (by simpa using hz)))
        obtain ⟨u, hu⟩ : ∃ u, l.getD j 0 = u := ⟨_, rfl⟩
        rw [hu] at hcell hz
        have hz' : ((u : Int) == 0) = false := by simp; omega
        have hjc : (j : Int) + 1 ≤ (c : Int) := by omega
        clear hu hj
        go_wp2_with (at_builtin; refine wpList_append_own _ rfl _ _ 61 rfl w.heap.size 69 i0 (.int .u32 0) 1 4 Try.underlying61 hi hz0 hz1 hz2 rfl (by decide) _ 0 [] rfl (World.ownsRow_nil _ _ _ _) ⟨b, off, none⟩ (j + 1) c ((l.take (j + 1)).map fun u => Value.int .u32 (u : Nat)) rfl (LEN.out (j + 1) hk) (NEWS.out (j + 1)) (rw_one _) (by unfold maxLen; omega) (by omega) (Nat.le_refl _) ?_)
        intro v' w1 hown hg _
        have HO := Lib.hid (LAST.out (j + 1) hk HE v' w1 (by simpa using hown) hg)
        clear hown
        go_wp2
        go_ret
        exact HO.out
theorem rnorm_any (A : Option Addr) (n c : Nat) (l : List Nat) (B : Nat) (w : World) (hn : l.length = n) (hc : n ≤ c) (hm : n ≤ 35184372088832) (h : RW w B A l) :
    Calls Try.prog 109 #[.slice A n c] w (OwnPost (nrm l) w) := by
  rcases Nat.eq_zero_or_pos n with h0 | h0
  · subst h0
    obtain rfl : l = [] := List.eq_nil_of_length_eq_zero hn
    exact rnorm_zero A c w
  · obtain ⟨b, off, rfl, _, hcell⟩ := h.2 (by omega)
    exact rnorm_some b off n c l w hn hc hm hcell
end Go.Proofs.Ytbinpcoaghpcdaa
namespace Go.Proofs.Ytbinpcoaghpcdaa
open Go.RowKit
/-- A call that tells the words l, and changes nothing that was. -/
def SlPost (l : List Nat) (w : World) (e : Ending) (w' : World) : Prop := ∃ v, e = .returned v ∧ Sl w' w'.heap.size v l ∧ Below w.heap.size w w'
theorem SlPost.of {l : List Nat} {w : World} {e : Ending} {w' : World} (hw : Ws l) (h : OwnPost l w e w') : SlPost l w e w' := by
  obtain ⟨v, e, ho, hb⟩ := h
  exact ⟨v, e, ho.sl hw, hb⟩
theorem rword_in (A : Option Addr) (n c i : Nat) (l : List Nat) (B : Nat) (w : World) (hn : l.length = n) (hm : n ≤ 35184372088832) (h : RW w B A l) (hi : i < n) :
    Calls Try.prog 112 #[.slice A n c, .int .i64 i] w fun e w' => e = .returned (.int .u64 (l.getD i 0 : Nat)) ∧ w = w' := by
  have hx := h.1.getD i
  obtain ⟨b, off, rfl, _, hc⟩ := h.2 (by omega)
  have hcell := hc i _ (getD_some (by omega))
  obtain ⟨u, hu⟩ : ∃ u, l.getD i 0 = u := ⟨_, rfl⟩
  rw [hu] at hcell hx ⊢
  have hx' : (u : Int) < 4294967296 := by omega
  have h1 : (i : Int) < (n : Int) := by omega
  have h2 : (n : Int) ≤ 35184372088832 := by omega
  clear hn hm h hc hu hi hx
  go_enter Try.func112, Try.ntmps112
  go_wp2
  go_ret
  exact ⟨rfl, rfl⟩
theorem rword_out (A : Option Addr) (n c i : Nat) (l : List Nat) (w : World) (hn : l.length = n) (hi : n ≤ i) :
    Calls Try.prog 112 #[.slice A n c, .int .i64 i] w fun e w' => e = .returned (.int .u64 (l.getD i 0 : Nat)) ∧ w = w' := by
  have e : l.getD i 0 = 0 := getD_none (by omega)
  rw [e]
  have h1 : ¬ ((i : Int) < (n : Int)) := by omega
  clear hn hi e
  go_enter Try.func112, Try.ntmps112
  go_wp2
  go_ret
  exact ⟨rfl, rfl⟩
theorem rword_any (A : Option Addr) (n c i : Nat) (l : List Nat) (B : Nat) (w : World) (hn : l.length = n) (hm : n ≤ 35184372088832) (h : RW w B A l) :
    Calls Try.prog 112 #[.slice A n c, .int .i64 i] w fun e w' => e = .returned (.int .u64 (l.getD i 0 : Nat)) ∧ w = w' := by
  by_cases hi : i < n
  · exact rword_in A n c i l B w hn hm h hi
  · exact rword_out A n c i l w hn (by omega)
/-- The words of a number of 64 bits. -/
def two (n : Nat) : List Nat := [n % 4294967296, n / 4294967296]
theorem lit_rw (w : World) (x y : Nat) (hx : x < 4294967296) (hy : y < 4294967296) : RW (w.alloc (.cells #[.int .u32 (x : Int), .int .u32 (y : Int)] 69)) (w.heap.size + 1) (some ⟨w.heap.size, 0, none⟩) [x, y] := ⟨Ws.cons hx (Ws.cons hy Ws.nil), fun _ => by
  refine ⟨w.heap.size, 0, rfl, by omega, fun k u hu => ?_⟩
  rw [Nat.zero_add, cell_of_row _ _ _ _ _ _ (heap_alloc_new w (.cells #[.int .u32 (x : Int), .int .u32 (y : Int)] 69))]
  match k, hu with
  | 0, hu => simp at hu; subst hu; rfl
  | 1, hu => simp at hu; subst hu; rfl
  | k + 2, hu => simp at hu⟩
theorem two_ws {n : Nat} (hn : n < 18446744073709551616) : Ws (two n) := Ws.cons (by omega) (Ws.cons (by omega) Ws.nil)
theorem two_val (n : Nat) : val (two n) = n := by simp only [two, val]; omega
set_option maxHeartbeats 1000000 in
theorem rof_any (n : Nat) (hn : n < 18446744073709551616) (w : World) : Calls Try.prog 105 #[.int .u64 n] w (SlPost (nrm (two n)) w) := by
  have H := lit_rw w (n % 4294967296) (n / 4294967296) (by omega) (by omega)
  have c1 := rnorm_any (some ⟨w.heap.size, 0, none⟩) 2 2 (two n) (w.heap.size + 1) _ rfl (Nat.le_refl _) (by omega) H
  have h1 : (n : Int) ≤ 18446744073709551615 := by omega
  rw [show ((n % 4294967296 : Nat) : Int) = (n : Int) % 4294967296 by omega, show ((n / 4294967296 : Nat) : Int) = (n : Int) / 4294967296 by omega] at c1
  have HW := Lib.hid (two_ws hn).nrm
  clear hn H
  go_enter Try.func105, Try.ntmps105
  go_wp2_with fail
  refine c1.mono ?_
  rintro e w' ⟨v, rfl, ho, hb⟩
  go_wp2
  go_ret
  exact ⟨_, rfl, ho.sl HW.out, ((Below.refl _ _).alloc (Nat.le_refl _) _).trans (hb.mono (by simp))⟩
end Go.Proofs.Ytbinpcoaghpcdaa
namespace Go.Proofs.Ytbinpcoaghpcdaa
open Go.RowKit
/-- Block g is a row of just the words R. -/
def Row (w : World) (g : Nat) (R : List Nat) : Prop := w.heap[g]? = some (.cells (R.map fun u => Value.int .u32 (u : Nat)).toArray 69 (0, 0))
theorem Row.lt {w : World} {g : Nat} {R : List Nat} (h : Row w g R) : g < w.heap.size := by
  rcases Nat.lt_or_ge g w.heap.size with hlt | hge
  · exact hlt
  · unfold Row at h; rw [Array.getElem?_eq_none hge] at h; cases h
theorem Row.cell {w : World} {g : Nat} {R : List Nat} (h : Row w g R) (i : Nat) (hi : i < R.length) : w.cell? ⟨g, i, none⟩ = some (.int .u32 ((R.getD i 0 : Nat) : Int)) := by
  rw [cell_of_row w g i _ _ _ h, List.getElem?_toArray, List.getElem?_map, getD_some hi]; rfl
theorem Row.frozen {w : World} {g : Nat} {R : List Nat} (h : Row w g R) (i : Nat) : w.frozen? ⟨g, i, none⟩ = false := by
  unfold Row at h
  simp [World.frozen?, h]
theorem Row.drewN {w : World} {g : Nat} {R : List Nat} (h : Row w g R) (n : Nat) : Row (w.drewN n) g R := h
theorem Row.below {w w' : World} {g B : Nat} {R : List Nat} (h : Row w g R) (hg : g < B) (hb : Below B w w') : Row w' g R := (hb.block g hg).trans h
theorem Row.set {w : World} {g : Nat} {R : List Nat} (h : Row w g R) (i u : Nat) : Row (w.setCell ⟨g, i, none⟩ (.int .u32 (u : Nat))) g (R.set i u) := by
  unfold Row at h ⊢
  rw [List.map_set]
  simp [World.setCell, Array.getElem?_modify, h]
theorem Row.rw {w : World} {g : Nat} {R : List Nat} (h : Row w g R) (hw : Ws R) (o n : Nat) (ho : o + n ≤ R.length) : RW w (g + 1) (some ⟨g, o, none⟩) ((R.drop o).take n) := ⟨(hw.drop o).take n, fun _ => by
  refine ⟨g, o, rfl, by omega, fun k u hu => ?_⟩
  rw [List.getElem?_take] at hu
  split at hu
  · next hk =>
    rw [List.getElem?_drop] at hu
    have := h.cell (o + k) (by omega)
    rw [List.getD_eq_getElem?_getD, hu] at this
    exact this
  · cases hu⟩
theorem Row.rw0 {w : World} {g : Nat} {R : List Nat} (h : Row w g R) (hw : Ws R) : RW w (g + 1) (some ⟨g, 0, none⟩) R := by
  have := h.rw hw 0 R.length (by omega)
  rw [List.drop_zero, List.take_of_length_le (Nat.le_refl _)] at this
  exact this
theorem Row.made (w : World) (n : Nat) : Row (w.alloc (.cells (madeCells #[.int .u32 0] n) 69)) w.heap.size (List.replicate n 0) := by
  have e := heap_alloc_new w (.cells (madeCells #[Value.int .u32 0] n) 69)
  unfold Row
  rw [show madeCells #[Value.int .u32 0] n = (List.replicate n (Value.int .u32 0)).toArray from Array.toList_inj.1 (by rw [toList_madeCells_one, List.toList_toArray])] at e ⊢
  rw [List.map_replicate]
  exact e
theorem Row.own {w : World} {g : Nat} {R : List Nat} (h : Row w g R) {B : Nat} (hB : B ≤ g) (hl : R.length ≤ maxLen) : OwnW B R (.slice (some ⟨g, 0, none⟩) R.length R.length) w := OwnW.of_block hB hl h
theorem Ws.zeros (n : Nat) : Ws (List.replicate n 0) := fun u hu => by rw [List.eq_of_mem_replicate hu]; omega
theorem getD_zeros (n j : Nat) : (List.replicate n 0).getD j 0 = 0 := by
  rw [List.getD_eq_getElem?_getD, List.getElem?_replicate]
  split <;> rfl
end Go.Proofs.Ytbinpcoaghpcdaa
namespace Go.Proofs.Ytbinpcoaghpcdaa
open Go.RowKit
/-- What stands in a row when k words of b times x were added from o on, q to be carried. -/
structure AddT (R : List Nat) (o : Nat) (b : List Nat) (x : Nat) (k : Nat) (S : List Nat) (q : Nat) : Prop where
  len : S.length = R.length
  ws : Ws S
  far : ∀ j, j < o ∨ o + k ≤ j → S.getD j 0 = R.getD j 0
  sum : val ((S.drop o).take k) + 4294967296 ^ k * q = val ((R.drop o).take k) + x * val (b.take k)
  low : q < 4294967296
theorem AddT.start {R : List Nat} (o : Nat) (b : List Nat) (x : Nat) (hR : Ws R) : AddT R o b x 0 R 0 := ⟨rfl, hR, fun _ _ => rfl, by simp [val], by omega⟩
/-- What is at the place of the next word. -/
def addC (R : List Nat) (o : Nat) (b : List Nat) (x k q : Nat) : Nat := q + (b.getD k 0 * x + R.getD (o + k) 0)
theorem addC_lt {R : List Nat} {o : Nat} {b : List Nat} {x k q : Nat} (hR : Ws R) (hb : Ws b) (hx : x < 4294967296) (hq : q < 4294967296) :
    b.getD k 0 * x ≤ 18446744065119617025 ∧ b.getD k 0 * x + R.getD (o + k) 0 < 18446744073709551616 ∧ addC R o b x k q < 18446744073709551616 := by
  have h1 := hb.getD k
  have h2 := hR.getD (o + k)
  have h3 : b.getD k 0 * x ≤ 4294967295 * 4294967295 := Nat.mul_le_mul (by omega) (by omega)
  unfold addC
  omega
theorem AddT.next {R : List Nat} {o : Nat} {b : List Nat} {x k : Nat} {S : List Nat} {q : Nat} (h : AddT R o b x k S q) (hR : Ws R) (hb : Ws b) (hx : x < 4294967296) (hk : k < b.length) (ho : o + k < R.length) :
    S.getD (o + k) 0 = R.getD (o + k) 0 ∧ AddT R o b x (k + 1) (S.set (o + k) (addC R o b x k q % 4294967296)) (addC R o b x k q / 4294967296) := by
  obtain ⟨h1, h2, h3, h4, h5⟩ := h
  have hlt := (addC_lt (o := o) (k := k) hR hb hx h5).2.2
  obtain ⟨t, ht⟩ : ∃ t, addC R o b x k q = t := ⟨_, rfl⟩
  rw [ht] at hlt ⊢
  refine ⟨h3 _ (.inr (Nat.le_refl _)), by rw [List.length_set]; exact h1, h2.set (by omega), fun j hj => ?_, ?_, by omega⟩
  · rw [getD_set_ne (by omega), h3 j (by omega)]
  · rw [val_part_succ _ o k (by rw [List.length_set]; omega), val_part_succ R o k ho, val_take_succ b k hk, getD_set_eq (by omega)]
    rw [part_congr (l := S.set (o + k) (t % 4294967296)) (m := S) o k (by rw [List.length_set]; omega) (by omega) (fun j _ hj => getD_set_ne (by omega))]
    have e := step_words (4294967296 ^ k) t (val ((S.drop o).take k)) (val ((R.drop o).take k) + 4294967296 ^ k * R.getD (o + k) 0 + x * (val (b.take k) + 4294967296 ^ k * b.getD k 0)) (by
      rw [← ht]
      unfold addC
      grind)
    rw [Nat.pow_succ]
    exact e
end Go.Proofs.Ytbinpcoaghpcdaa
namespace Go.Proofs.Ytbinpcoaghpcdaa
open Go.RowKit
/-- Nothing but block g has changed. -/
structure Only (g : Nat) (w w' : World) : Prop where
  below : Below g w w'
  far : ∀ k, k ≠ g → w'.heap[k]? = w.heap[k]?
theorem Only.refl (g : Nat) (w : World) : Only g w w := ⟨Below.refl _ _, fun _ _ => rfl⟩
theorem Only.trans {g : Nat} {a b c : World} (h : Only g a b) (k : Only g b c) : Only g a c := ⟨h.below.trans k.below, fun i hi => (k.far i hi).trans (h.far i hi)⟩
theorem Only.setCell {g i : Nat} {a w : World} (h : Only g a w) (u : Value) : Only g a (w.setCell ⟨g, i, none⟩ u) :=
  ⟨h.below.setCell (Nat.le_refl _) u, fun k hk => (Below.heap_setCell w ⟨g, i, none⟩ u k hk).trans (h.far k hk)⟩
theorem Only.drewN {g : Nat} {a w : World} (h : Only g a w) (n : Nat) : Only g a (w.drewN n) := ⟨below_drewN' h.below n, h.far⟩
theorem Row.only {w w' : World} {g k : Nat} {R : List Nat} (h : Row w k R) (hk : k ≠ g) (hb : Only g w w') : Row w' k R := (hb.far k hk).trans h
end Go.Proofs.Ytbinpcoaghpcdaa
namespace Go.Proofs.Ytbinpcoaghpcdaa
open Go.RowKit
/-- Is a number too long? -/
def lngB (v : Nat) : Bool := decide (1024 < (wds v).length)
/-- What is told of a number: it, or that it is too long. -/
def NatPost (v : Nat) (w : World) (e : Ending) (w' : World) : Prop :=
  ∃ A n c k, e = .returned (.tuple #[.slice A n c, .int .i64 (k : Nat)]) ∧ (if lngB v = true then A = none ∧ n = 0 ∧ c = 0 ∧ k = 3 else n = (wds v).length ∧ n ≤ c ∧ k = 0 ∧ RW w' w'.heap.size A (wds v)) ∧ Below w.heap.size w w'
/-- That an error is told. -/
def ErrPost (k : Nat) (w : World) (e : Ending) (w' : World) : Prop := e = .returned (.tuple #[.slice none 0 0, .int .i64 (k : Nat)]) ∧ Below w.heap.size w w'
theorem NatPost.long {v : Nat} {w w' : World} (h : lngB v = true) (hb : Below w.heap.size w w') : NatPost v w (.returned (.tuple #[.slice none 0 0, .int .i64 3])) w' :=
  ⟨none, 0, 0, 3, rfl, by rw [if_pos h]; exact ⟨rfl, rfl, rfl, rfl⟩, hb⟩
theorem NatPost.ok {v : Nat} {w w' : World} {A : Option Addr} {n c : Nat} (h : lngB v = false) (hn : n = (wds v).length) (hc : n ≤ c) (hr : RW w' w'.heap.size A (wds v)) (hb : Below w.heap.size w w') : NatPost v w (.returned (.tuple #[.slice A n c, .int .i64 0])) w' :=
  ⟨A, n, c, 0, rfl, by rw [if_neg (by rw [h]; simp)]; exact ⟨hn, hc, rfl, hr⟩, hb⟩
end Go.Proofs.Ytbinpcoaghpcdaa
namespace Go.Proofs.Ytbinpcoaghpcdaa
open Go.RowKit
/-- What stands in the row of a product when i words of a have been gone through. -/
structure MulT (a b : List Nat) (i : Nat) (P : List Nat) : Prop where
  len : P.length = a.length + b.length
  ws : Ws P
  zeros : ∀ j, i + b.length ≤ j → P.getD j 0 = 0
  sum : val (P.take (i + b.length)) = val (a.take i) * val b
theorem MulT.start (a b : List Nat) : MulT a b 0 (List.replicate (a.length + b.length) 0) :=
  ⟨List.length_replicate, Ws.zeros _, fun j _ => getD_zeros _ j, by
    rw [List.take_replicate, val_zeros]; simp [val]⟩
theorem MulT.next {a b : List Nat} {i : Nat} {P S : List Nat} {q : Nat} (h : MulT a b i P) (hi : i < a.length) (hS : AddT P i b (a.getD i 0) b.length S q) : MulT a b (i + 1) (S.set (i + b.length) q) := by
  obtain ⟨h1, h2, h3, h4⟩ := h
  obtain ⟨g1, g2, g3, g4, g5⟩ := hS
  refine ⟨by rw [List.length_set]; omega, g2.set g5, fun j hj => ?_, ?_⟩
  · rw [getD_set_ne (by omega), g3 j (by omega), h3 j (by omega)]
  · have hb : b.take b.length = b := List.take_of_length_le (Nat.le_refl _)
    rw [hb] at g4
    have e1 : (S.set (i + b.length) q).take (i + 1 + b.length) = (S.set (i + b.length) q).take (i + b.length + 1) := by congr 1; omega
    rw [e1, val_take_succ _ _ (by rw [List.length_set]; omega), getD_set_eq (by omega), val_take_succ a i hi]
    rw [take_congr (l := S.set (i + b.length) q) (m := S) (i + b.length) (by rw [List.length_set]; omega) (by omega) (fun j hj => getD_set_ne (by omega))]
    rw [val_part S i b.length (by omega)]
    rw [take_congr (l := S) (m := P) i (by omega) (by omega) (fun j hj => g3 j (by omega))]
    rw [val_part P i b.length (by omega)] at h4
    rw [Nat.pow_add]
    have e2 : val (P.take i) + 4294967296 ^ i * val ((S.drop i).take b.length) + 4294967296 ^ i * 4294967296 ^ b.length * q = val (P.take i) + 4294967296 ^ i * (val ((S.drop i).take b.length) + 4294967296 ^ b.length * q) := by grind
    rw [e2, g4]
    grind
theorem MulT.whole {a b : List Nat} {P : List Nat} (h : MulT a b a.length P) : val P = val a * val b := by
  have := h.sum
  rw [List.take_of_length_le (by rw [h.len]; exact Nat.le_refl _), List.take_of_length_le (Nat.le_refl _)] at this
  exact this
/-- What Mul tells. -/
def MulPost (v u : Nat) (w : World) (e : Ending) (w' : World) : Prop := if (lngB v || lngB u) = true then ErrPost 3 w e w' else NatPost (v * u) w e w'
theorem MulPost.ok {v u : Nat} {w w' : World} {e : Ending} (h : MulPost v u w e w') (hv : lngB v = false) (hu : lngB u = false) : NatPost (v * u) w e w' := by
  unfold MulPost at h
  rw [if_neg (by rw [hv, hu]; simp)] at h
  exact h
theorem lit_one (w : World) (x : Nat) (hx : x < 4294967296) : RW (w.alloc (.cells #[.int .u32 (x : Int)] 69)) (w.heap.size + 1) (some ⟨w.heap.size, 0, none⟩) [x] := ⟨Ws.cons hx Ws.nil, fun _ => by
  refine ⟨w.heap.size, 0, rfl, by omega, fun k u hu => ?_⟩
  rw [Nat.zero_add, cell_of_row _ _ _ _ _ _ (heap_alloc_new w (.cells #[.int .u32 (x : Int)] 69))]
  match k, hu with
  | 0, hu => simp at hu; subst hu; rfl
  | k + 1, hu => simp at hu⟩
theorem NatPost.get {v : Nat} {w w' : World} {e : Ending} (h : NatPost v w e w') (hl : lngB v = false) : ∃ A c, e = .returned (.tuple #[.slice A (wds v).length c, .int .i64 0]) ∧ ((wds v).length ≤ c ∧ RW w' w'.heap.size A (wds v)) ∧ Below w.heap.size w w' := by
  obtain ⟨A, n, c, k, h1, h2, h3⟩ := h
  rw [if_neg (by rw [hl]; simp)] at h2
  obtain ⟨rfl, h4, rfl, h5⟩ := h2
  exact ⟨A, c, h1, ⟨h4, h5⟩, h3⟩
end Go.Proofs.Ytbinpcoaghpcdaa
namespace Go.Proofs.Ytbinpcoaghpcdaa
open Go.RowKit
theorem OwnW.snoc {B : Nat} {L : List Nat} {u : Nat} {v : Value} {w : World} (h : w.ownsRow B 69 1 v (L.length + 1) (L.map (fun u => Value.int .u32 (u : Nat)) ++ [Value.int .u32 (u : Nat)])) : OwnW B (L ++ [u]) v w := by
  unfold OwnW
  rw [List.length_append, List.map_append]
  exact h
end Go.Proofs.Ytbinpcoaghpcdaa
namespace Go.Proofs.Ytbinpcoaghpcdaa
open Go.RowKit
/-- A call that tells n words l in a slice. -/
def Told (l : List Nat) (n : Nat) (w : World) (e : Ending) (w' : World) : Prop := ∃ A c, e = .returned (.slice A n c) ∧ (n ≤ c ∧ RW w' w'.heap.size A l) ∧ Below w.heap.size w w'
theorem SlPost.told {l : List Nat} {n : Nat} {w : World} {e : Ending} {w' : World} (h : SlPost l w e w') (hn : l.length = n) : Told l n w e w' := by
  obtain ⟨v, rfl, ⟨A, c, rfl, hc, hr⟩, hb⟩ := h
  rw [hn] at hc ⊢
  exact ⟨A, c, rfl, ⟨hc, hr⟩, hb⟩
end Go.Proofs.Ytbinpcoaghpcdaa
namespace Go.Proofs.Ytbinpcoaghpcdaa
theorem val_split (l : List Nat) (k : Nat) (h : k ≤ l.length) : val l = val (l.take k) + 4294967296 ^ k * val (l.drop k) := by
  have hk : (l.take k).length = k := by rw [List.length_take]; omega
  have := val_append (l.take k) (l.drop k)
  rw [List.take_append_drop, hk] at this
  exact this
theorem val_take_small {l : List Nat} {k : Nat} (h : val l < 4294967296 ^ k) : val (l.take k) = val l := by
  rcases Nat.lt_or_ge l.length k with h1 | h1
  · rw [List.take_of_length_le (by omega)]
  · have e := val_split l k h1
    rcases Nat.eq_zero_or_pos (val (l.drop k)) with h2 | h2
    · rw [h2] at e; omega
    · have : 4294967296 ^ k * 1 ≤ 4294967296 ^ k * val (l.drop k) := Nat.mul_le_mul_left _ h2
      omega
theorem val_drop_cons (l : List Nat) (i : Nat) (h : i < l.length) : val (l.drop i) = l.getD i 0 + 4294967296 * val (l.drop (i + 1)) := by
  rw [List.drop_eq_getElem_cons h, val]
  congr 1
  rw [List.getD_eq_getElem?_getD, List.getElem?_eq_getElem h]; rfl
/-! ### by a word -/
/-- The state of the division by a word d: the words from i on are the quotient's, and r is the rest so far. -/
structure WordT (a : List Nat) (d i : Nat) (S : List Nat) (r : Nat) : Prop where
  len : S.length = a.length
  ws : Ws S
  far : ∀ j, j < i → S.getD j 0 = a.getD j 0
  sum : val (S.drop i) * d + r = val (a.drop i)
  low : r < d
theorem WordT.start {a : List Nat} {d : Nat} (h : Ws a) (hd : 0 < d) : WordT a d a.length a 0 :=
  ⟨rfl, h, fun _ _ => rfl, by rw [List.drop_of_length_le (Nat.le_refl _)]; simp [val], hd⟩
theorem WordT.next {a : List Nat} {d i : Nat} {S : List Nat} {r : Nat} (h : WordT a d (i + 1) S r) (ha : Ws a) (hi : i < a.length) (hd : d < 4294967296) :
    S.getD i 0 = a.getD i 0 ∧ (r * 4294967296 + a.getD i 0) / d < 4294967296 ∧ WordT a d i (S.set i ((r * 4294967296 + a.getD i 0) / d)) ((r * 4294967296 + a.getD i 0) % d) := by
  obtain ⟨h1, h2, h3, h4, h5⟩ := h
  have hx := ha.getD i
  have hd0 : 0 < d := by omega
  have hq : (r * 4294967296 + a.getD i 0) / d < 4294967296 := by
    rw [Nat.div_lt_iff_lt_mul hd0]
    have : (r + 1) * 4294967296 ≤ d * 4294967296 := Nat.mul_le_mul_right _ h5
    omega
  refine ⟨h3 i (by omega), hq, by rw [List.length_set]; exact h1, h2.set hq, fun j hj => by rw [getD_set_ne (by omega)]; exact h3 j (by omega), ?_, Nat.mod_lt _ hd0⟩
  rw [val_drop_cons _ i (by rw [List.length_set]; omega), getD_set_eq (by omega), val_drop_cons a i hi, List.drop_set, if_pos (by omega)]
  have e := Nat.mod_add_div (r * 4294967296 + a.getD i 0) d
  generalize (r * 4294967296 + a.getD i 0) / d = q at *
  generalize (r * 4294967296 + a.getD i 0) % d = z at *
  generalize val (S.drop (i + 1)) = V at *
  rw [← h4]
  grind
theorem WordT.fin {a : List Nat} {d : Nat} {S : List Nat} {r : Nat} (h : WordT a d 0 S r) : val S = val a / d ∧ r = val a % d := by
  obtain ⟨h1, h2, h3, h4, h5⟩ := h
  rw [List.drop_zero, List.drop_zero] at h4
  have e1 : val a / d = val S := by
    rw [← h4, Nat.add_comm, Nat.add_mul_div_right _ _ (by omega), Nat.div_eq_of_lt h5, Nat.zero_add]
  have e2 := Nat.mod_add_div (val a) d
  rw [e1, Nat.mul_comm] at e2
  exact ⟨e1.symm, by omega⟩

end Go.Proofs.Ytbinpcoaghpcdaa
