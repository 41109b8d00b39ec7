/-
  The program's functions, variables: the names that are declared.
-/
import Derived.Test.YtjbofhaiephedaaGreatJ29
import Derived.Test.YtjbofhaiephedaaGreatJ31
import Derived.Deep.LoopGhost
namespace Go.Proofs.YtjbofhaiephedaaGreat
open Go.RowKit Go.Shelf
attribute [local go_sem] stFl hmf
def fnL (ls : List ByteArray) (x : Tn) : List ByteArray := if x.datum.k == 42 then addL ls x.datum.st else ls
mutual
/-- The names that are declared within a node, behind others. -/
def varG (ls : List ByteArray) : Tn → List ByteArray
  | .mk d l => if d.k == 13 || d.k == 42 then ls else if d.k == 45 then varL (addL ls d.st) l else varL ls l
def varL (ls : List ByteArray) : List Tn → List ByteArray
  | [] => ls
  | x :: r => varL (varG ls x) r
end
theorem varL_fold : ∀ (l : List Tn) (ls : List ByteArray), varL ls l = l.foldl varG ls
  | [], ls => by rw [varL]; rfl
  | x :: r, ls => by rw [varL, varL_fold r]; rfl
theorem varG_eq (ls : List ByteArray) (t : Tn) : varG ls t = (if t.datum.k == 13 || t.datum.k == 42 then ls else if t.datum.k == 45 then varL (addL ls t.datum.st) t.kids else varL ls t.kids) := by
  cases t
  rw [varG]
  rfl
theorem addL_le (ls : List ByteArray) (s : ByteArray) : (addL ls s).length ≤ ls.length + 1 := by
  unfold addL
  split <;> simp
mutual
theorem varG_le (ls : List ByteArray) : ∀ t : Tn, (varG ls t).length ≤ ls.length + t.size
  | .mk d l => by
    rw [varG, Tr.size]
    have h0 := addL_le ls d.st
    split
    · omega
    · split
      · have := varL_le (addL ls d.st) l
        omega
      · have := varL_le ls l
        omega
theorem varL_le (ls : List ByteArray) : ∀ l : List Tn, (varL ls l).length ≤ ls.length + Tr.sizes l
  | [] => by rw [varL]; omega
  | x :: r => by
    rw [varL, Tr.sizes]
    have h1 := varG_le ls x
    have h2 := varL_le (varG ls x) r
    omega
end
theorem fold_at {f : List ByteArray → Tn → List ByteArray} {l : List Tn} {ls : List ByteArray} {i : Nat} {x : Tn} (h : l[i]? = some x) : (l.take (i + 1)).foldl f ls = f ((l.take i).foldl f ls) x := by
  rw [List.take_add_one, h, List.foldl_append]
  rfl
theorem fnL_le : ∀ (l : List Tn) (ls : List ByteArray), (l.foldl fnL ls).length ≤ ls.length + l.length
  | [], ls => by simp
  | x :: r, ls => by
    have h1 := fnL_le r (fnL ls x)
    have h2 : (fnL ls x).length ≤ ls.length + 1 := by
      unfold fnL
      split
      · exact addL_le _ _
      · omega
    simp only [List.foldl_cons, List.length_cons]
    omega
theorem sizes_take (l : List Tn) (i : Nat) : Tr.sizes (l.take i) + Tr.sizes (l.drop i) = Tr.sizes l := by
  induction l generalizing i with
  | nil => simp [Tr.sizes]
  | cons x r ih =>
    cases i with
    | zero => simp [Tr.sizes]
    | succ i =>
      have := ih i
      simp only [List.take_succ_cons, List.drop_succ_cons, Tr.sizes]
      omega
theorem sizes_at {l : List Tn} {i : Nat} {x : Tn} (h : l[i]? = some x) : Tr.sizes (l.take i) + x.size ≤ Tr.sizes l := by
  have h1 := sizes_take l i
  have hi := (List.getElem?_eq_some_iff.1 h)
  obtain ⟨hl, e⟩ := hi
  rw [List.drop_eq_getElem_cons hl, e, Tr.sizes] at h1
  omega
set_option maxRecDepth 100000 in
set_option maxHeartbeats 2000000 in
theorem functions_any {mb B : Nat} (l : List Tn) (A : Option Addr) (c : Nat) (ls : List ByteArray) (v : Value) (w : World) (hA : AtS (fun b => b < mb) w l (.slice A l.length c)) (hT : Tbl mb B ls w v)
    (hs : ∀ x ∈ l, x.datum.st.size ≤ maxLen) (hle : ls.length + l.length ≤ 4194304) :
    Calls Tryz.prog 25 #[.pointer (some ⟨B, 0, none⟩), .slice A l.length c] w fun e w' => (∃ v, e = .returned v) ∧ (∃ v', Tbl mb B (l.foldl fnL ls) w' v') ∧ Below mb w w' := by
  obtain ⟨_, _, e1, hmx, -⟩ := id hA
  cases e1
  have hmx := hmx.1
  have HA := Lib.hid hA
  have HS := Lib.hid hs
  have HLE := Lib.hid hle
  have B0 := Lib.hid (Below.refl mb w)
  have T0 := Lib.hid (show ∃ v', Tbl mb B ((l.take 0).foldl fnL ls) w v' from ⟨v, hT⟩)
  have hlen : l.length ≤ 4194304 := by omega
  clear hA hs hle hT
  go_enter Tryz.func25, Tryz.ntmps25
  go_wp2
  go_loopw [7] (fun i wr => ∃ i0 : Nat, i = .int .i64 i0 ∧ i0 ≤ l.length ∧ Hid (∃ v', Tbl mb B ((l.take i0).foldl fnL ls) wr v') ∧ Hid (Below mb w wr)) (fun i _ => l.length - (intOf i).toNat)
  case atStart => exact ⟨0, rfl, Nat.zero_le _, T0, B0⟩
  case round =>
    obtain ⟨i0, rfl, hi0, hQ, hB⟩ := hrel
    by_cases hi : i0 < l.length
    · obtain ⟨x, hx⟩ : ∃ x, l[i0]? = some x := ⟨_, List.getElem?_eq_getElem hi⟩
      obtain ⟨b, oo, s6, e1, -, -, hr, -⟩ := (HA.out.keep (Same.below hB.out)).nth hx
      cases e1
      have m0 : wr.cell? ⟨b, oo + i0 * 7, none⟩ = some (.int .i64 x.datum.k) := hr 0 _ rfl
      have m2 := hr 2 _ rfl
      have HX := Lib.hid hx
      have hxs := HS.out x (List.mem_of_getElem? hx)
      have hfl : (((l.take i0).foldl fnL ls)).length ≤ 4194304 := by
        have h1 := fnL_le (l.take i0) ls
        have h2 := HLE.out
        rw [List.length_take] at h1
        omega
      obtain ⟨v1, hT1⟩ := hQ.out
      have C1 := Lib.hid (add_any x.datum.st wr hT1 hxs hfl)
      have HT1 := Lib.hid (show ∃ v', Tbl mb B ((l.take i0).foldl fnL ls) wr v' from ⟨v1, hT1⟩)
      clear hr hx hT1 hxs hfl hQ
      cases hq : (x.datum.k == 42)
      · go_wp2
        refine ⟨⟨i0 + 1, rfl, hi, Lib.hid ?_, hB⟩, meas_dec hi⟩
        rw [fold_at HX.out]
        unfold fnL at HT1 ⊢
        rw [hq]
        exact HT1.out
      · go_wp2_with fail
        refine C1.out.mono ?_
        rintro e w2 ⟨⟨v2, rfl⟩, hT2, b2⟩
        have HT2 := Lib.hid hT2
        have HB2 := Lib.hid (hB.out.trans b2)
        clear hT2 b2 m0 m2
        go_wp2
        refine ⟨⟨i0 + 1, rfl, hi, Lib.hid ?_, HB2⟩, meas_dec hi⟩
        rw [fold_at HX.out]
        unfold fnL at HT2 ⊢
        rw [hq]
        exact HT2.out
    · have hi1 : i0 = l.length := by omega
      go_wp2
      go_end0
      refine ⟨⟨_, rfl⟩, ?_, hB.out⟩
      have h := hQ.out
      rw [hi1, List.take_length] at h
      exact h
end Go.Proofs.YtjbofhaiephedaaGreat
