/-
  The law UstrSplits (texts of at most 2^20 bytes), and slices of texts that come in.
-/
import Derived.Test.YthnkidncjkhndaaDoorRjoin
import Derived.Test.YthnkidncjkhndaaDoorWlPure
import Derived.Test.YthnkidncjkhndaaDoorAwake
import Derived.Test.YthnkidncjkhndaaDoorSlargs
import Derived.SliceStrings
namespace Go.Proofs.YthnkidncjkhndaaDoor
open Go.ChangeShapes Go.WideShapes Go.ChangeAt Go.RowKit
theorem spOK_len {s t : ByteArray} {ps : List (List Nat)} (h : spOK s t ps) : ps.length ≤ ln s + 1 := by
  rcases h with ⟨h1, h2⟩ | ⟨h1, h2⟩
  · rw [h2, List.length_map, us_length]; omega
  · have := spl_len h2 (by rw [us_length]; exact h1) (Nat.zero_le _)
    rw [us_length] at this
    omega
set_option maxRecDepth 100000 in
set_option maxHeartbeats 4000000 in
theorem splitsLaw_any (s t : ByteArray) (A : Option Addr) (n c : Nat) (L : List ByteArray) (w : World) (hs : s.size ≤ 1048576) (ht : t.size ≤ 1048576) (hn : L.length = n) (hm : n ≤ 1048575) (hL : ∀ x ∈ L, x.size ≤ 1048576)
    (h : RS w w.heap.size A L) (hT : Lib.Utf8Tabs 0 1 w) :
    Calls Tryd.prog 11 #[.string s, .string t, .slice A n c] w fun e w' => e = .returned (.bool true) ∧ Below w.heap.size w w' := by
  have hl := ln_le s
  have K1 := Lib.hid (fun W => splitAll_any s t W hs ht)
  have K2 := Lib.hid (fun W => rsplit_any s t W hs ht)
  have K3 := Lib.hid (fun W A1 A2 n1 n2 c1 c2 ps qs (hp : spOK s t ps) (hq : spOK s t qs) (h1 : ps.length = n1) (h2 : qs.length = n2) (r1 : RS W W.heap.size A1 (ps.map tx)) (r2 : RS W W.heap.size A2 (qs.map tx)) =>
    show n1 = n2 ∧ Calls Tryd.prog 54 #[.slice A1 n1 c1, .slice A2 n1 c2] W fun e w' => e = .returned (.bool true) ∧ ∃ k, w' = W.drewN k from by
      have e := spOK_unique hp hq
      subst e
      have := spOK_len hp
      exact ⟨by omega, texts_any A1 A2 n1 c1 c2 (ps.map tx) W.heap.size W.heap.size W (by rw [List.length_map]; exact h1) (by omega) r1 r2⟩)
  have K4 := Lib.hid (fun W (hB : Below w.heap.size w W) => join_any A n c L t W hn (by omega) ht hL ((h.below hB).more hB.size))
  have K5 := Lib.hid (fun W (hB : Below w.heap.size w W) => rjoin_any A n c L t W hn (by omega) ht hL ((h.below hB).more hB.size))
  have HA := Lib.hid (fun W (hb : Below w.heap.size w W) => awake_any W (tabs_below hT (tabs_two hT) hb))
  obtain ⟨J, hJ⟩ : ∃ J, tx (jn (us t) (L.map us)) = J := ⟨_, rfl⟩
  have HJ := Lib.hid hJ
  clear hs ht hn hm hL h hT hl hJ
  go_enter Tryd.func11, Tryd.ntmps11
  go_wp2_with fail
  refine (K1.out _).mono ?_
  rintro e w1 ⟨A1, n1, c1, ps, rfl, ⟨hp, hp1, r1⟩, b1⟩
  go_wp2_with fail
  refine (K2.out _).mono ?_
  rintro e w2 ⟨A2, n2, c2, qs, rfl, ⟨hq, hq1, r2⟩, b2⟩
  have B2 := below_le b1 b2
  obtain ⟨rfl, C3⟩ := K3.out w2 A1 A2 n1 n2 c1 c2 ps qs hp hq hp1 hq1 ((r1.below b2).more b2.size) r2
  clear hp hp1 r1 b1 hq hq1 r2 b2
  go_wp2_with fail
  refine C3.mono ?_
  rintro e w' ⟨rfl, n3, rfl⟩
  have B3 := below_drewN' B2 n3
  clear C3
  go_wp2_with fail
  refine (K4.out _ B3).mono ?_
  rintro e w4 ⟨he4, b4⟩
  rw [HJ.out] at he4
  subst he4
  have B4 := below_le B3 b4
  go_wp2_with fail
  refine (K5.out _ B4).mono ?_
  rintro e w5 ⟨he5, b5⟩
  rw [HJ.out] at he5
  subst he5
  have B5 := below_le B4 b5
  go_wp2_with fail
  refine (HA.out _ B5).mono ?_
  rintro e w6 ⟨rfl, b6⟩
  have B6 := below_le B5 b6
  go_wp2
  go_ret
  exact ⟨rfl, B6⟩
theorem bulk_mem {H : Type} {d : DataW H} {l : List (DataW H)} (h : d ∈ l) : Rows.uptoBulk d ≤ Rows.uptoBulkAll l := by
  induction l with
  | nil => cases h
  | cons x r ih =>
    simp only [Rows.uptoBulkAll]
    cases List.mem_cons.1 h with
    | inl e => subst e; omega
    | inr e => have := ih e; omega
theorem texts_open {H : Type} {enc : TypeId × Value → H} {W : World} {a : Option Addr} {len cap : Nat} {d : DataW H} {p : List MemPlace}
    (h : DataW.Trod enc Tryd.prog W 0 (fun _ => true) true 45 (.slice a len cap) d p) :
    ∃ L : List ByteArray, L.length = len ∧ RS W W.heap.size a L ∧ (∀ x ∈ L, x.size ≤ Rows.uptoBulk d) ∧ len + 1 ≤ Rows.uptoBulk d := by
  obtain ⟨fuel, hf⟩ := h
  rcases open_strings Tryd.underlying45 Tryd.underlying9 (by kernel_rfl) hf with ⟨hcs, hx⟩ | ⟨x, l, c, ss, hcs, _, hl, hm, hz, hx, hcell, hwz⟩
  · simp [Value.cells] at hcs
    obtain ⟨rfl, rfl, rfl⟩ := hcs
    have hd : d = .nil := by simpa using congrArg Prod.fst hx
    refine ⟨[], rfl, fun hl => by simp at hl, fun x hx => by simp at hx, ?_⟩
    rw [hd]; simp [Rows.uptoBulk]
  · simp [Value.cells] at hcs
    obtain ⟨rfl, rfl, rfl⟩ := hcs
    simp at hz
    have hd : d = .slice (strs (ss.take len)) (strs (ss.drop len)) := by simpa using congrArg Prod.fst hx
    have hlen : (ss.take len).length = len := by rw [List.length_take]; omega
    refine ⟨ss.take len, hlen, ?_, ?_, ?_⟩
    · intro hpos
      rw [hlen] at hpos
      obtain ⟨b, off, spot⟩ := x
      have hc := hcell 0 (by omega)
      have hspot : spot = none := by simpa [Addr.add] using World.cell?_spot hc
      subst hspot
      have hb : b < W.heap.size := by
        rcases Nat.lt_or_ge b W.heap.size with h' | h'
        · exact h'
        · simp [World.cell?, Addr.add, Array.getElem?_eq_none h'] at hc
      refine ⟨b, off, rfl, hb, fun k y hk => ?_⟩
      have hk2 : k < len := by
        have := (List.getElem?_eq_some_iff.1 hk).1
        omega
      rw [List.getElem?_take_of_lt hk2] at hk
      have hk3 := (List.getElem?_eq_some_iff.1 hk).1
      have h1 := hcell k hk3
      have hzz : ss.getD k ByteArray.empty = y := by rw [List.getD_eq_getElem?_getD, hk]; rfl
      rw [hzz] at h1
      by_cases hk0 : k = 0
      · subst hk0; simpa [Addr.add] using h1
      · simpa [Addr.add, hk0] using h1
    · intro y hy
      rw [hd]
      have hm : (DataW.lit (.string y.data.toList) : DataW H) ∈ strs (ss.take len) := List.mem_map.2 ⟨y, hy, rfl⟩
      have h1 := bulk_mem hm
      simp only [Rows.uptoBulk] at h1 ⊢
      rw [Lib.size_eq]
      omega
    · rw [hd]
      have h1 := bulk_len (strs (H := H) (ss.take len))
      have h2 : (strs (H := H) (ss.take len)).length = len := by unfold strs; rw [List.length_map]; exact hlen
      simp only [Rows.uptoBulk]
      omega
end Go.Proofs.YthnkidncjkhndaaDoor
