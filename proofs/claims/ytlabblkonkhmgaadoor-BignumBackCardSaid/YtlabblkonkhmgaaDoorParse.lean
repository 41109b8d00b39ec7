/-
  Contract of Parse of the program.
-/
import Derived.Test.YtlabblkonkhmgaaDoorTimesP
import Derived.Test.YtlabblkonkhmgaaDoorChars2
import Derived.Test.YtlabblkonkhmgaaDoorPlus
import Derived.Test.YtlabblkonkhmgaaDoorMul
namespace Go.Proofs.YtlabblkonkhmgaaDoor
open Go.RowKit
theorem OwnW.below {B : Nat} {l : List Nat} {v : Value} {w w' : World} (h : OwnW B l v w) (hb : Below w.heap.size w w') : OwnW B l v w' := by
  refine World.ownsRow.kept (row := none) h ⟨hb.os, hb.tape, hb.output, hb.size, fun k hk _ => hb.block k hk⟩ ?_
  cases v.ownBlock <;> simp
theorem lng_le' {v : Nat} (h : lngB v = false) : (wds v).length ≤ 1024 := by
  unfold lngB at h
  have := of_decide_eq_false h
  omega
theorem lng_mono' {v u : Nat} (h : u ≤ v) (hu : lngB u = true) : lngB v = true := by
  unfold lngB at hu ⊢
  have h1 := of_decide_eq_true hu
  have h2 := wds_len_lt (n := u) (k := (wds v).length) (Nat.lt_of_le_of_lt h (wds_lt v))
  exact decide_eq_true (by omega)
theorem sum_len_max' (v u : Nat) : (wds (v + u)).length ≤ max (wds v).length (wds u).length + 1 := by
  refine wds_len_lt ?_
  have h1 := wds_lt v
  have h2 := wds_lt u
  have h3 : 4294967296 ^ (wds v).length ≤ 4294967296 ^ max (wds v).length (wds u).length := Nat.pow_le_pow_right (by omega) (by omega)
  have h4 : 4294967296 ^ (wds u).length ≤ 4294967296 ^ max (wds v).length (wds u).length := Nat.pow_le_pow_right (by omega) (by omega)
  have := pow_twice (max (wds v).length (wds u).length)
  omega
theorem prod_len_sum' (v u : Nat) : (wds (v * u)).length ≤ (wds v).length + (wds u).length := by
  refine wds_len_lt ?_
  rw [Nat.pow_add]
  exact Nat.mul_lt_mul'' (wds_lt v) (wds_lt u)
/-- The value of a string's digits. -/
def sv (r : Nat) (s : ByteArray) : Nat := pv r (fun i => dgt (btn s i)) s.size
/-- The rest of a string from o on. -/
structure Rest (s : ByteArray) (o : Nat) (t : ByteArray) : Prop where
  le : o ≤ s.size
  size : t.size = s.size - o
  byte : ∀ i, i < t.size → btn t i = btn s (o + i)
theorem btn_extract (t : ByteArray) (a b i : Nat) (hi : i < b - a) (hb : b ≤ t.size) : btn (t.extract a b) i = btn t (a + i) := by
  have h1 : i < (t.extract a b).size := by rw [ByteArray.size_extract]; omega
  rw [← btn_eq _ i h1, ← btn_eq t (a + i) (by omega), ByteArray.getElem_extract]
theorem Rest.all (s : ByteArray) : Rest s 0 s := ⟨Nat.zero_le _, rfl, fun i _ => by rw [Nat.zero_add]⟩
theorem Rest.next {s t : ByteArray} {o m : Nat} (h : Rest s o t) (hm : m ≤ t.size) : Rest s (o + m) (t.extract m t.size) :=
  ⟨by have := h.le; have := h.size; omega, by rw [ByteArray.size_extract, h.size]; omega, fun i hi => by
    have h1 : i < t.size - m := by rw [ByteArray.size_extract] at hi; omega
    rw [btn_extract t m t.size i h1 (Nat.le_refl _), h.byte _ (by omega), Nat.add_assoc]⟩
def strLen : Value → Nat
  | .string s => s.size
  | _ => 0
set_option maxRecDepth 100000 in
set_option maxHeartbeats 1000000 in
theorem parse_ok (s : ByteArray) (r : Nat) (w : World) (hs : s.size ≤ 4611686018427387903) (h2 : 2 ≤ r) (h36 : r ≤ 36) (hd : adB r s = true) :
    Calls Tryd.prog 9 #[.string s, .int .i64 r] w (NatPost (sv r s) w) := by
  have c1 := allDigits_any s r w hs h36
  have C2 := Lib.hid (fun W => group_any r W h2 h36)
  rw [hd] at c1
  have hdd : ∀ i, i < s.size → dgt (btn s i) < r := by
    unfold adB at hd
    exact of_decide_eq_true (Bool.and_eq_true _ _ ▸ hd : _ ∧ _).2
  have HD := Lib.hid hdd
  have H2 := Lib.hid h2
  have H36 := Lib.hid h36
  have hr1 : ¬ (r : Int) < 2 := by omega
  have hr2 : ¬ (36 : Int) < (r : Int) := by omega
  have hs1 : (s.size : Int) ≤ 4611686018427387903 := by omega
  clear hd hdd hs h2 h36
  go_enter Tryd.func9, Tryd.ntmps9
  go_wp2_with fail
  refine c1.mono ?_
  rintro e w1 ⟨rfl, rfl⟩
  go_wp2_with fail
  refine (C2.out _).mono ?_
  rintro e w1 ⟨⟨c, p, rfl, hp, hc1, hc2, hpl⟩, rfl⟩
  have HP := Lib.hid hp
  have HPL := Lib.hid hpl
  have HC1 := Lib.hid hc1
  have hc0 : (c : Int) ≤ 32 := by omega
  clear hp hpl hc1 hc2 c1 C2
  go_wp2
  go_loopw [0, 8] (fun tv av wr => ∃ (t : ByteArray) (o : Nat), tv = .string t ∧ Hid (Rest s o t) ∧ Hid (OwnW w.heap.size (wds (pv r (fun i => dgt (btn s i)) o)) av wr) ∧ Hid (lngB (pv r (fun i => dgt (btn s i)) o) = false) ∧ Below w.heap.size w wr) (fun tv _ _ => strLen tv)
  case atStart => exact ⟨s, 0, rfl, Lib.hid (Rest.all s), Lib.hid (OwnW.nil _ _), Lib.hid (lng_small (by simp [pv])), Below.refl _ _⟩
  case round =>
    obtain ⟨t, o, rfl, HR, HO, HL, hbw⟩ := hrel
    obtain ⟨V, hV⟩ : ∃ V, pv r (fun i => dgt (btn s i)) o = V := ⟨_, rfl⟩
    rw [hV] at HO HL
    have HV := Lib.hid hV
    have hle := lng_le' HL.out
    obtain ⟨A0, c0, rfl, hc0', hr0⟩ := HO.out.sl (wds_ws V)
    obtain ⟨L0, hL0⟩ : ∃ L, (wds V).length = L := ⟨_, rfl⟩
    have hts : (t.size : Int) ≤ 4611686018427387903 := by have := HR.out.size; omega
    by_cases h0 : t.size = 0
    · have C1 := Lib.hid (answer_any A0 L0 c0 (wds V) wr hL0 (by omega) (by omega) hr0)
      rw [wds_val] at C1
      have HFV := Lib.hid (show V = sv r s from by
        have h1 := HR.out.size
        have h2 := HR.out.le
        rw [← HV.out]; unfold sv; congr 1; omega)
      have HL0 := Lib.hid hL0
      rw [hL0]
      have b0 : ¬ (0 : Int) < (t.size : Int) := by omega
      clear hV hle hc0' hr0 hL0 h0
      go_wp2_with fail
      refine C1.out.mono ?_
      rintro e w2 h
      have h2 := NatPost.from_ hbw h
      rw [HFV.out] at h2
      obtain ⟨A2, n2, c2, k2, rfl, h3, h4⟩ := h2
      have H3 := Lib.hid h3
      have H4 := Lib.hid h4
      clear h h3 h4 C1
      go_wp2
      go_ret2
      exact ⟨A2, n2, c2, k2, rfl, H3.out, H4.out⟩
    · obtain ⟨m, hm⟩ : ∃ m, min c t.size = m := ⟨_, rfl⟩
      have hc1 := HC1.out
      have hm0 : 0 < m := by omega
      have hmt : m ≤ t.size := by omega
      have hmc : (m = c ∧ (c : Int) ≤ (t.size : Int)) ∨ (m = t.size ∧ ¬ (c : Int) ≤ (t.size : Int)) := by omega
      have hRn := HR.out.next hmt
      have hsz : (t.extract 0 m).size = m := by rw [ByteArray.size_extract]; omega
      have hby : ∀ i, i < m → btn (t.extract 0 m) i = btn s (o + i) := fun i hi => by
        rw [btn_extract t 0 m i (by omega) hmt, Nat.zero_add]; exact HR.out.byte i (by omega)
      have hom : o + m ≤ s.size := hRn.le
      have hpm : r ^ m < 4294967296 := by
        have h1 : r ^ m ≤ r ^ c := Nat.pow_le_pow_right (by have := H2.out; omega) (by omega)
        have h2 := HPL.out
        rw [HP.out] at h2
        omega
      have hpm0 : 0 < r ^ m := Nat.pow_pos (by have := H2.out; omega)
      have hpv : pv r (fun i => dgt (btn (t.extract 0 m) i)) m = pv r (fun i => dgt (btn s (o + i))) m := pv_congr (fun i hi => by rw [hby i hi])
      have C1 := Lib.hid (fun W => show Calls Tryd.prog 30 #[.string (t.extract 0 m), .int .i64 r] W fun e w' => e = .returned (.tuple #[.int .u32 (pv r (fun i => dgt (btn s (o + i))) m : Nat), .int .u32 (r ^ m : Nat)]) ∧ W = w' from by
        have := small_any (t.extract 0 m) r W H36.out H2.out (by rw [hsz]; exact hpm) (fun i hi => by rw [hsz] at hi; rw [hby i hi]; exact HD.out _ (by omega))
        rw [hsz, hpv] at this
        exact this)
      have hyl : pv r (fun i => dgt (btn s (o + i))) m < 4294967296 := Nat.lt_trans (pv_lt (fun i hi => HD.out _ (by omega))) hpm
      have hadd := pv_add r (fun i => dgt (btn s i)) o m
      rw [hV] at hadd
      obtain ⟨x, hx⟩ : ∃ x, r ^ m = x := ⟨_, rfl⟩
      obtain ⟨y, hy⟩ : ∃ y, pv r (fun i => dgt (btn s (o + i))) m = y := ⟨_, rfl⟩
      rw [hx] at C1 hpm hpm0 hadd
      rw [hy] at C1 hyl hadd
      have C2 := Lib.hid (timesPlus_any w.heap.size (.slice A0 L0 c0) V x y wr (by have := HO.out; rw [hL0] at this; exact this) hbw.size hle hpm hpm0 hyl)
      obtain ⟨V2, hV2⟩ : ∃ V2, V * x + y = V2 := ⟨_, rfl⟩
      rw [hV2] at C2 hadd
      have HV2 := Lib.hid hadd
      have l1 : (wds V2).length ≤ 1026 := by
        have h1 := prod_len_sum' V x
        have h2 := sum_len_max' (V * x) y
        have h3 : (wds x).length ≤ 1 := wds_len_lt (by omega)
        have h4 : (wds y).length ≤ 1 := wds_len_lt (by omega)
        rw [hV2] at h2
        omega
      have HLE2 := Lib.hid l1
      have HRN := Lib.hid hRn
      have HMONO := Lib.hid (show V2 ≤ sv r s from by rw [← hadd]; exact pv_mono (by have := H2.out; omega) hom)
      have HM0 := Lib.hid hm0
      have hmt1 : (m : Int) ≤ (t.size : Int) := by omega
      have b0 : (0 : Int) < (t.size : Int) := by omega
      rw [hL0]
      clear hV hle hc0' hr0 hL0 h0 hm hc1 hm0 hmt hRn hsz hby hom hpm hpm0 hpv hyl hadd hx hy hV2 l1
      rcases hmc with ⟨rfl, a1⟩ | ⟨rfl, a1⟩
      · go_wp2_with fail
        refine (C1.out _).mono ?_
        rintro e w' ⟨rfl, rfl⟩
        go_wp2_with fail
        refine C2.out.mono ?_
        rintro e w2 ⟨v2, rfl, ho2, hb2⟩
        have hbw2 : Below w.heap.size w w2 := hbw.trans hb2
        obtain ⟨A2, c2, rfl, hc2, hr2⟩ := ho2.sl (wds_ws _)
        obtain ⟨L2, hL2⟩ : ∃ L, (wds V2).length = L := ⟨_, rfl⟩
        rw [hL2] at hc2 ho2 ⊢
        have C3 := Lib.hid (tooOne_any A2 L2 c2 (wds V2) w2 hL2 hc2 (by have := HLE2.out; omega) hr2)
        rw [wds_val] at C3
        have HO2 := Lib.hid ho2
        have hp : Below w2.heap.size w2 (lone w2 (.slice A2 L2 c2)) := (Below.refl _ _).alloc (Nat.le_refl _) _
        have HB2 := Lib.hid (below_le hbw2 hp)
        have HO3 := Lib.hid (ho2.below hp)
        have HL2 := Lib.hid hL2
        clear ho2 hb2 hbw2 hc2 hr2 hL2 hp C1 C2
        cases hl : lngB V2
        · rw [hl] at C3
          have HLN := Lib.hid hl
          clear hl
          go_wp2_with fail
          refine C3.out.mono ?_
          rintro e w3 ⟨rfl, rfl⟩
          go_wp2
          exact ⟨⟨_, _, rfl, HRN, Lib.hid (by rw [HV2.out]; exact HO3.out), Lib.hid (by rw [HV2.out]; exact HLN.out), HB2.out⟩, by
            have h1 := HM0.out
            have h2 := HRN.out.size
            have h3 := HRN.out.le
            have h4 := HR.out.size
            simp only [strLen]
            omega⟩
        · rw [hl] at C3
          have HLN := Lib.hid (lng_mono' HMONO.out hl)
          clear hl
          go_wp2_with fail
          refine C3.out.mono ?_
          rintro e w3 ⟨rfl, rfl⟩
          go_wp2
          go_ret2
          exact NatPost.long HLN.out HB2.out
      · rw [show t.extract 0 t.size = t from by simp] at C1
        rw [show t.extract t.size t.size = ByteArray.empty from by simp] at HRN
        go_wp2_with fail
        refine (C1.out _).mono ?_
        rintro e w' ⟨rfl, rfl⟩
        go_wp2_with fail
        refine C2.out.mono ?_
        rintro e w2 ⟨v2, rfl, ho2, hb2⟩
        have hbw2 : Below w.heap.size w w2 := hbw.trans hb2
        obtain ⟨A2, c2, rfl, hc2, hr2⟩ := ho2.sl (wds_ws _)
        obtain ⟨L2, hL2⟩ : ∃ L, (wds V2).length = L := ⟨_, rfl⟩
        rw [hL2] at hc2 ho2 ⊢
        have C3 := Lib.hid (tooOne_any A2 L2 c2 (wds V2) w2 hL2 hc2 (by have := HLE2.out; omega) hr2)
        rw [wds_val] at C3
        have HO2 := Lib.hid ho2
        have hp : Below w2.heap.size w2 (lone w2 (.slice A2 L2 c2)) := (Below.refl _ _).alloc (Nat.le_refl _) _
        have HB2 := Lib.hid (below_le hbw2 hp)
        have HO3 := Lib.hid (ho2.below hp)
        have HL2 := Lib.hid hL2
        clear ho2 hb2 hbw2 hc2 hr2 hL2 hp C1 C2
        cases hl : lngB V2
        · rw [hl] at C3
          have HLN := Lib.hid hl
          clear hl
          go_wp2_with fail
          refine C3.out.mono ?_
          rintro e w3 ⟨rfl, rfl⟩
          go_wp2
          exact ⟨⟨_, _, rfl, HRN, Lib.hid (by rw [HV2.out]; exact HO3.out), Lib.hid (by rw [HV2.out]; exact HLN.out), HB2.out⟩, by
            have h1 := HM0.out
            have h2 := HRN.out.size
            have h3 := HRN.out.le
            have h4 := HR.out.size
            simp only [strLen]
            omega⟩
        · rw [hl] at C3
          have HLN := Lib.hid (lng_mono' HMONO.out hl)
          clear hl
          go_wp2_with fail
          refine C3.out.mono ?_
          rintro e w3 ⟨rfl, rfl⟩
          go_wp2
          go_ret2
          exact NatPost.long HLN.out HB2.out
end Go.Proofs.YtlabblkonkhmgaaDoor
