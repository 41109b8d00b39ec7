/-
  Objects' tables, as they are looked through; objects without properties.
-/
import Derived.Test.YtmlgjijjkikkhaaGreatDoorO2
namespace Go.Proofs.YtmlgjijjkikkhaaGreatDoor
open Go.RowKit
attribute [local go_sem] stF
theorem neqM (m : Option Nat) (w : World) : (binOp .neq 132 (.map m) (.map none)).run Tryz.prog w = .ok (.bool (!m.isNone)) w := by
  have h := run_neq_map_nil (P := Tryz.prog) w 132 _ _ m Tryz.underlying132
  cases m <;> simpa using h
attribute [local go_sem] neqM
/-- The first of some keys that is the key. -/
def fndK (K : List ByteArray) (k : ByteArray) : Option Nat := K.findIdx? (fun x => x.toList == k.toList)
def fndI (K : List ByteArray) (k : ByteArray) : Int := match fndK K k with | some i => (i : Int) | none => -1
theorem fndI_at {K : List ByteArray} {k : ByteArray} {i : Nat} (hb : (K.take i).any (fun x => x.toList == k.toList) = false) (hi : (K.drop i).head?.any (fun x => x.toList == k.toList) = true) : fndI K k = (i : Int) := by
  have h : fndK K k = some i := by
    unfold fndK
    rw [List.findIdx?_eq_some_iff_findIdx_eq]
    cases hd : K.drop i with
    | nil => rw [hd] at hi; simp at hi
    | cons x r =>
      rw [hd] at hi
      have hx : (x.toList == k.toList) = true := by simpa using hi
      have hl : i < K.length := by
        rcases Nat.lt_or_ge i K.length with h | h
        · exact h
        · rw [List.drop_of_length_le h] at hd; cases hd
      refine ⟨hl, ?_⟩
      have e : K[i] = x := by
        have := List.drop_eq_getElem_cons hl
        rw [hd] at this
        exact (List.cons.inj this).1.symm
      rw [List.findIdx_eq hl]
      refine ⟨by rw [e]; exact hx, fun j hj => ?_⟩
      have := List.any_eq_false.1 hb K[j] (by
        rw [List.mem_take_iff_getElem]
        exact ⟨j, by omega, rfl⟩)
      simpa using this
  unfold fndI
  rw [h]
theorem fndI_no {K : List ByteArray} {k : ByteArray} (hb : K.any (fun x => x.toList == k.toList) = false) : fndI K k = -1 := by
  have h : fndK K k = none := by
    unfold fndK
    rw [List.findIdx?_eq_none_iff]
    intro x hx
    have := List.any_eq_false.1 hb x hx
    simpa using this
  unfold fndI
  rw [h]
/-- A table that has no map: its keys. -/
structure TabF (W : World) (t : Nat) (o : Nat) (K : List ByteArray) : Prop where
  m : W.cell? ⟨t, o + 1, none⟩ = some (.map none)
  r : ∃ A c, W.cell? ⟨t, o, none⟩ = some (.slice A K.length c) ∧ K.length ≤ c ∧ (K ≠ [] → ∃ q, A = some ⟨q, 0, none⟩ ∧ ∀ i k, K[i]? = some k → W.cell? ⟨q, i * 11, none⟩ = some (.string k))
  l : K.length ≤ 4194304
set_option maxRecDepth 100000 in
set_option maxHeartbeats 1000000 in
theorem place_few {t : Nat} {K : List ByteArray} (k : ByteArray) {w : World} (h : TabF w t 13 K) :
    Calls Tryz.prog 116 #[.pointer (some ⟨t, 13, none⟩), .string k] w fun e w' => e = .returned (.int .i64 (fndI K k)) ∧ w = w' := by
  obtain ⟨hm, ⟨A, c, hr, hlc, hA⟩, hl⟩ := h
  have HA := Lib.hid hA
  have HL := Lib.hid hl
  obtain ⟨R, hR⟩ : ∃ R, fndI K k = R := ⟨_, rfl⟩
  rw [hR]
  have HR := Lib.hid hR
  have hcs : (K.length : Int) ≤ c := by omega
  clear hA hl hR hlc
  go_enter Tryz.func116, Tryz.ntmps116
  go_wp2
  go_loopw [29] (fun iv wr => ∃ i : Nat, iv = .int .i64 i ∧ i ≤ K.length ∧ Hid ((K.take i).any (fun x => x.toList == k.toList) = false) ∧ w = wr) (fun iv _ => K.length - (intOf iv).toNat)
  case atStart => exact ⟨0, by go_num, Nat.zero_le _, Lib.hid rfl, rfl⟩
  case round =>
    obtain ⟨i, rfl, hi, HN, rfl⟩ := hrel
    have hil : (i : Int) ≤ 4194304 := by have := HL.out; omega
    rcases Nat.lt_or_ge i K.length with hlt | hge
    · obtain ⟨q, rfl, hK⟩ := HA.out (by intro h; rw [h] at hlt; simp at hlt)
      obtain ⟨x, hx⟩ : ∃ x, K[i]? = some x := ⟨_, List.getElem?_eq_getElem hlt⟩
      have c0 := hK i x hx
      have hd : (K.drop i).head? = some x := by rw [List.head?_drop]; exact hx
      have hltI : (i : Int) < K.length := by omega
      cases hq : (x.toList == k.toList)
      · have HS := Lib.hid (show (K.take (i + 1)).any (fun x => x.toList == k.toList) = false by
          rw [List.take_add_one, hx, List.any_append, HN.out]
          simp only [Option.toList, List.any_cons, List.any_nil, hq, Bool.or_false])
        clear hK hx hd HN
        go_wp2
        go_roundw
        case rel => exact ⟨i + 1, by go_num, hlt, HS, by trivial⟩
        case measure => simp [intOf]; omega
      · have hR := HR.out
        rw [fndI_at HN.out (by rw [hd]; exact hq)] at hR
        subst hR
        clear hK hx hd HN
        go_wp2
        go_ret
        exact ⟨rfl, rfl⟩
    · obtain rfl : i = K.length := by omega
      have hR := HR.out
      rw [fndI_no (by rw [← List.take_length (l := K)]; exact HN.out)] at hR
      subst hR
      clear HN
      go_wp2
      go_ret
      exact ⟨rfl, rfl⟩
set_option maxRecDepth 100000 in
set_option maxHeartbeats 1000000 in
theorem get_no {t : Nat} {K : List ByteArray} (k : ByteArray) {w : World} (hn : fndI K k = -1)
    (hon : ∀ X, TabF (w.alloc X) t 13 K) :
    Calls Tryz.prog 118 #[.pointer (some ⟨t, 13, none⟩), .string k] w fun e w' => e = .returned (.tuple #[.agg zP, .bool false]) ∧ Below w.heap.size w w' := by
  have C := Lib.hid (fun X => place_few k (hon X))
  have HB := Lib.hid (below_a1 w)
  rw [hn] at C
  clear hn hon
  go_enter Tryz.func118, Tryz.ntmps118
  go_wp2_with fail
  refine (C.out _).mono ?_
  rintro e w' ⟨rfl, rfl⟩
  go_wp2_with (refine wpList_store_row rfl 152 _ _ rfl w.heap.size _ rfl rfl 152 _ (new1 w _ _) (by kernel_rfl) rfl (by kernel_rfl) ?_; rw [World.setRow_alloc_new])
  exact cR2 rfl rfl (run_loadVar_row _ w.heap.size 152 152 zP (0, 0) _ (new1 w _ _) Tryz.underlying152 rfl (by kernel_rfl)) rfl ⟨rfl, HB.out _⟩
end Go.Proofs.YtmlgjijjkikkhaaGreatDoor
