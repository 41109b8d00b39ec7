/-
  The contract of Shl of the program, whole. What BignumBack needs beyond the contracts: digits read back are the number; the double of a double's parts is it. No program in it. The law BignumBack.
-/
import Derived.Test.YtlabblkonkhmgaaDoorPShl
import Derived.Test.YtlabblkonkhmgaaDoorTextA
import Derived.Test.YtlabblkonkhmgaaDoorNear
import Derived.Test.YtlabblkonkhmgaaDoorParts2
import Derived.Test.YtlabblkonkhmgaaDoorLdexp
import Derived.Test.YtlabblkonkhmgaaDoorLawF
namespace Go.Proofs.YtlabblkonkhmgaaDoor
open Go.RowKit
theorem btl_zero {l : List Nat} (h : Ws l) : btl l = 0 ↔ nrm l = [] := by
  constructor
  · intro e
    rcases Classical.em (nrm l = []) with h0 | h0
    · exact h0
    · have := (btl_bounds h h0).2.2; omega
  · intro e; unfold btl; rw [if_pos e]
theorem nrm_pos {l : List Nat} (h0 : nrm l ≠ []) : val l ≠ 0 := fun e => h0 (nrm_val_zero e)
theorem shlq_long {v : Nat} {p : Int} {w : World} (h : lngB v = true) : ShlQ v p w = ErrPost 3 w := by funext e w'; unfold ShlQ; rw [if_pos h]
theorem shlq_neg {v : Nat} {p : Int} {w : World} (h : lngB v = false) (hp : p < 0) : ShlQ v p w = ErrPost 1 w := by funext e w'; unfold ShlQ; rw [if_neg (by rw [h]; simp), if_pos hp]
theorem shlq_ok {v q : Nat} {w : World} (h : lngB v = false) : ShlQ v (q : Int) w = NatPost (v * 2 ^ q) w := by funext e w'; unfold ShlQ; rw [if_neg (by rw [h]; simp), if_neg (by omega), Int.toNat_natCast]
theorem pshl_any (A : Option Addr) (n c : Nat) (p : Int) (l : List Nat) (w : World) (hn : l.length = n) (hc : n ≤ c) (hm : n ≤ 35184372088832) (h : RW w w.heap.size A l) :
    Calls Tryd.prog 19 #[.slice A n c, .int .i64 p] w (ShlQ (val l) p w) := by
  cases hl : lngB (val l)
  · by_cases hp : p < 0
    · rw [shlq_neg hl hp]
      exact pshl_neg A n c p l w hn hc hm h hl hp
    · obtain ⟨q, rfl⟩ : ∃ q : Nat, p = (q : Int) := ⟨p.toNat, by omega⟩
      rw [shlq_ok hl]
      by_cases h0 : nrm l = []
      · have := pshl_zero A n c q l w hn hc hm h (by omega) h0
        rw [← val_nrm l, h0, show val [] = 0 from rfl, Nat.zero_mul]
        exact this
      · have h1 : nrm (nrm l) ≠ [] := by rw [nrm_nrm]; exact h0
        by_cases hf : btl (nrm l) + q ≤ 32768
        · exact pshl_ok A n c q (q / 32) (q % 32) l w hn hc hm h hl h0 hf (by omega) (by omega)
        · refine (pshl_far A n c q l w hn hc hm h hl (by omega) h0 (by omega)).mono fun e w' x => ?_
          obtain ⟨rfl, hb⟩ := x
          have := shl_long (n := q) h.1.nrm h1 (by omega)
          rw [val_nrm] at this
          exact NatPost.long this hb
  · rw [shlq_long hl]
    exact pshl_long A n c p l w hn hc hm h hl
end Go.Proofs.YtlabblkonkhmgaaDoor
namespace Go.Proofs.YtlabblkonkhmgaaDoor
open Go.RowKit
theorem bl_len2 (s : ByteArray) : (bl s).length = s.size := by unfold bl; rw [List.length_map]; rfl
theorem btn_bl (s : ByteArray) (k : Nat) : btn s k = (bl s).getD k 0 := by
  unfold btn bl
  rw [List.getD_eq_getElem?_getD, List.getElem?_map, Array.getElem?_toList]
  cases s.data[k]? <;> rfl
theorem pv_rev (r : Nat) : ∀ L : List Nat, pv r (fun i => L.reverse.getD i 0) L.length = dv r L
  | [] => rfl
  | x :: l => by
    rw [List.length_cons, pv, dv, ← pv_rev r l, List.reverse_cons]
    have h1 : pv r (fun i => (l.reverse ++ [x]).getD i 0) l.length = pv r (fun i => l.reverse.getD i 0) l.length := pv_congr (fun i hi => by
      simp only [List.getD_eq_getElem?_getD]
      rw [List.getElem?_append_left (by rw [List.length_reverse]; exact hi)])
    have h2 : (l.reverse ++ [x]).getD l.length 0 = x := by
      rw [List.getD_eq_getElem?_getD, List.getElem?_append_right (by rw [List.length_reverse]; omega), List.length_reverse, Nat.sub_self]
      rfl
    rw [h1, h2, Nat.mul_comm, Nat.add_comm]
theorem dv_strip (r : Nat) : ∀ D : List Nat, dv r (dstrip D) = dv r D
  | [] => rfl
  | x :: l => by
    have h := dv_strip r l
    rw [dstrip]
    split
    · next h1 => rw [h1.2] at h; rw [show dv r (x :: l) = x + r * dv r l from rfl, ← h, h1.1]; simp [dv]
    · rw [dv, dv, h]
theorem Ds.strip {r : Nat} : ∀ {D : List Nat}, Ds r D → Ds r (dstrip D)
  | [], h => h
  | x :: l, h => by
    have h1 := Ds.strip h.tail
    rw [dstrip]
    split
    · exact Ds.nil r
    · intro u hu
      rcases List.mem_cons.1 hu with rfl | hu
      · exact h.head
      · exact h1 u hu
theorem read_back {r : Nat} (hr : r ≤ 36) {L : List Nat} {t : ByteArray} (hL : Ds r L) (h0 : L ≠ []) (ht : bl t = (L.map dch).reverse) : adB r t = true ∧ sv r t = dv r L := by
  have hs : t.size = L.length := by rw [← bl_len2, ht, List.length_reverse, List.length_map]
  have hp : 0 < L.length := List.length_pos_iff.2 h0
  have hd : ∀ i, i < L.length → dgt (btn t i) = L.reverse.getD i 0 ∧ L.reverse.getD i 0 < r := by
    intro i hi
    have hi2 : i < L.reverse.length := by rw [List.length_reverse]; exact hi
    have h1 : btn t i = dch (L.reverse.getD i 0) := by
      rw [btn_bl, ht, ← List.map_reverse, List.getD_eq_getElem?_getD, List.getD_eq_getElem?_getD, List.getElem?_map, List.getElem?_eq_getElem hi2]
      rfl
    have h2 : L.reverse.getD i 0 < r := by
      rw [List.getD_eq_getElem?_getD, List.getElem?_eq_getElem hi2]
      exact hL _ (List.mem_reverse.1 (List.getElem_mem hi2))
    exact ⟨by rw [h1]; exact dgt_dch (by omega), h2⟩
  constructor
  · rw [adB_yes (fun i hi => by rw [hs] at hi; rw [(hd i hi).1]; exact (hd i hi).2), hs]
    exact decide_eq_true hp
  · unfold sv
    rw [hs, ← pv_rev r L]
    exact pv_congr (fun i hi => (hd i hi).1)
theorem textq_back {r n : Nat} (h2 : 2 ≤ r) (hr : r ≤ 36) {t : ByteArray} (h : TextQ r n t) : adB r t = true ∧ sv r t = n := by
  rcases h with ⟨rfl, h⟩ | ⟨h0, D, hD, hv, ht⟩
  · exact read_back (L := [0]) hr (fun u hu => by simp at hu; omega) (by simp) h
  · have := read_back (L := dstrip D) hr hD.strip (fun e => by
      have h3 := dv_strip r D
      rw [e, hv] at h3
      rw [dv] at h3
      omega) ht
    rw [dv_strip, hv] at this
    exact this
theorem parse_back {p : Int} {v : Nat} {t : ByteArray} (hb : ¬ badR p) (hv : lngB v = false) (h : TextQ p.toNat v t) : parL p t = wds v ∧ parK p t = 0 := by
  unfold badR at hb
  obtain ⟨h1, h2⟩ := textq_back (by omega) (by omega) h
  have hb2 : ¬ badR p := by unfold badR; exact hb
  unfold parL parK
  rw [if_neg hb2, if_neg hb2, if_pos h1, if_pos h1, h2]
  unfold natL natK
  rw [if_neg (by rw [hv]; simp), if_neg (by rw [hv]; simp)]
  exact ⟨rfl, rfl⟩
/-- The double of a double's parts. -/
theorem fl_parts {x k m n : Nat} (h0 : 0 < x) (hx : x < 9218868437227405312) (hkm : fwhole x = 2 ^ (k + 1) * m + 2 ^ k) (hn : fpow x + (k : Nat) = (n : Int)) : fl ((2 * m + 1) * 2 ^ n) = x ∧ ∀ K, 1024 ≤ K → (2 * m + 1) * 2 ^ n < 2 ^ K := by
  have hF : fwhole x = (2 * m + 1) * 2 ^ k := by rw [hkm, Nat.pow_succ]; grind
  unfold fpow at hn
  unfold fwhole at hF
  by_cases hq : x / 4503599627370496 = 0
  · rw [if_pos hq] at hn hF
    exfalso
    have h1 : 1 * 2 ^ k ≤ (2 * m + 1) * 2 ^ k := Nat.mul_le_mul_right _ (by omega)
    have h2 : 2 ^ k < 2 ^ 52 := by have : (2 : Nat) ^ 52 = 4503599627370496 := rfl; omega
    have := (Nat.pow_lt_pow_iff_right (a := 2) (by omega)).1 h2
    omega
  · rw [if_neg hq] at hn hF
    obtain ⟨q, hqq⟩ : ∃ q, x / 4503599627370496 = q := ⟨_, rfl⟩
    obtain ⟨t, ht⟩ : ∃ t, x % 4503599627370496 = t := ⟨_, rfl⟩
    rw [hqq] at hn hq
    rw [ht] at hF
    have ht2 : t < 4503599627370496 := by omega
    have hxq : x = q * 4503599627370496 + t := by omega
    have hq2 : q < 2047 := by omega
    clear hkm hqq ht
    obtain ⟨F, hFF⟩ : ∃ F, t + 4503599627370496 = F := ⟨_, rfl⟩
    rw [hFF] at hF
    have F1 : 2 ^ 52 ≤ F := by have : (2 : Nat) ^ 52 = 4503599627370496 := rfl; omega
    have F2 : F < 2 ^ 53 := by have : (2 : Nat) ^ 53 = 9007199254740992 := rfl; omega
    rcases Nat.lt_or_ge q 1075 with hlt | hge
    · obtain ⟨d, hd⟩ : ∃ d, q + d = 1075 := ⟨1075 - q, by omega⟩
      have hk : k = n + d := by omega
      subst hk
      rw [Nat.pow_add, ← Nat.mul_assoc] at hF
      obtain ⟨N, hN⟩ : ∃ N, (2 * m + 1) * 2 ^ n = N := ⟨_, rfl⟩
      rw [hN] at hF ⊢
      have hN0 : 0 < N := by rw [← hN]; exact Nat.mul_pos (by omega) (Nat.two_pow_pos _)
      have hd52 : d ≤ 52 := by
        have h1 : 1 * 2 ^ d ≤ N * 2 ^ d := Nat.mul_le_mul_right _ hN0
        have h2 : 2 ^ d < 2 ^ 53 := by omega
        have := (Nat.pow_lt_pow_iff_right (a := 2) (by omega)).1 h2
        omega
      obtain ⟨L, hL⟩ : ∃ L, L + d = 52 := ⟨52 - d, by omega⟩
      have N1 : 2 ^ L ≤ N := by
        refine Nat.le_of_mul_le_mul_right ?_ (Nat.two_pow_pos d)
        rw [← Nat.pow_add, hL, ← hF]; exact F1
      have N2 : N < 2 ^ (L + 1) := by
        refine Nat.lt_of_mul_lt_mul_right (a := 2 ^ d) ?_
        rw [← Nat.pow_add, show L + 1 + d = 53 by omega, ← hF]; exact F2
      rw [fl_low N1 N2 (by omega), show 52 - L = d by omega, ← hF]
      refine ⟨by omega, fun K hK => Nat.lt_of_lt_of_le N2 (Nat.pow_le_pow_right (by omega) (by omega))⟩
    · obtain ⟨d, hd⟩ : ∃ d, q = 1075 + d := ⟨q - 1075, by omega⟩
      have hk : n = k + d := by omega
      subst hk
      rw [Nat.pow_add, ← Nat.mul_assoc, ← hF]
      have N1 : 2 ^ (52 + d) ≤ F * 2 ^ d := by rw [Nat.pow_add]; exact Nat.mul_le_mul_right _ F1
      have N2 : F * 2 ^ d < 2 ^ (52 + d + 1) := by
        rw [show 52 + d + 1 = 53 + d by omega, Nat.pow_add]
        exact Nat.mul_lt_mul_of_pos_right F2 (Nat.two_pow_pos d)
      rw [fl_high N1 N2 (by omega), show 52 + d - 52 = d by omega, evn_exact]
      refine ⟨by rw [Nat.min_eq_left (by omega)]; omega, fun K hK => Nat.lt_of_lt_of_le N2 (Nat.pow_le_pow_right (by omega) (by omega))⟩
theorem lng_fin {v : Nat} (h : ∀ K, 1024 ≤ K → v < 2 ^ K) : lngB v = false := by
  unfold lngB
  obtain ⟨m, hm⟩ : ∃ m : Nat, m = 32 := ⟨_, rfl⟩
  have : (wds v).length ≤ m := wds_len_lt (by rw [show (4294967296 : Nat) = 2 ^ 32 from rfl, ← Nat.pow_mul]; exact h (32 * m) (by omega))
  exact decide_eq_false (by omega)
theorem eq_self {x : Nat} (h : fnan x = false) : (FloatKind.f64.format.order x x == some .eq) = true := by
  have := ord_self x
  rw [h] at this
  rw [bne_eq_false_iff_eq] at this
  rw [this]; rfl
end Go.Proofs.YtlabblkonkhmgaaDoor
namespace Go.Proofs.YtlabblkonkhmgaaDoor
open Go.RowKit
theorem textq_size {r n K : Nat} {t : ByteArray} (h2 : 2 ≤ r) (h : TextQ r n t) (hn : n < 2 ^ K) : t.size ≤ K + 1 := by
  rcases h with ⟨_, h⟩ | ⟨h0, D, hD, hv, ht⟩
  · rw [← bl_len2, h]; simp
  · rw [← bl_len2, ht, List.length_reverse, List.length_map]
    obtain ⟨k, _, h3⟩ := strip_split D
    have h4 := dv_strip r D
    rcases h3 with h3 | ⟨d, m, h3, h5⟩
    · rw [h3]; simp
    · rw [h3, List.length_append, List.length_singleton]
      rw [h3, dv_snoc, hv] at h4
      have h6 : 2 ^ m.length ≤ r ^ m.length := Nat.pow_le_pow_left h2 _
      have h7 : r ^ m.length * 1 ≤ r ^ m.length * d := Nat.mul_le_mul_left _ (by omega)
      have := (Nat.pow_lt_pow_iff_right (a := 2) (by omega)).1 (show 2 ^ m.length < 2 ^ K by omega)
      omega
/-- What the law asks of a float: no parts, a power below 0, or the float back. -/
theorem parts_back (x : Nat) (hx : x < 18446744073709551616) : ∃ S N p er, S.length = N ∧ N ≤ 2 ∧ (∀ W, TzTab W → Calls Tryd.prog 13 #[.float .f64 x] W (Three S N p er W)) ∧
    (er = 1 ∨ (er = 0 ∧ p < 0) ∨ (er = 0 ∧ ∃ q : Nat, p = (q : Int) ∧ lngB (val S) = false ∧ lngB (val S * 2 ^ q) = false ∧ (FloatKind.f64.format.order (fl (val S * 2 ^ q)) x == some .eq) = true)) := by
  cases hb : fbad x
  · obtain ⟨g1, g2, g3⟩ := fgood hx hb
    by_cases h0 : rung x = 0
    · refine ⟨[], 0, 0, 0, rfl, by omega, fun W _ => (pparts_zero x W hx hb h0).mono fun e w' ⟨he, hw⟩ => by subst he; subst hw; exact Three.none _ _ _, .inr (.inr ⟨rfl, 0, rfl, ?_⟩)⟩
      have e1 : val [] = 0 := rfl
      rw [e1, Nat.zero_mul, fl_zero]
      have h1 := order_eq (x := 0) (y := x) (by decide) (by omega)
      have h2 : frank 0 = 0 := by decide
      have h3 : frank x = 0 := by unfold frank; rw [h0]; simp
      rw [h2, h3] at h1
      refine ⟨lng_small (by omega), lng_small (by omega), ?_⟩
      rw [show FloatKind.f64.format = Ieee.double from rfl, h1]
      decide
    · obtain ⟨_, g4, g5, g6⟩ := g3.resolve_left h0
      obtain ⟨f1, f2⟩ := fwhole_pos (x := x) (by omega)
      obtain ⟨k, m, hkm⟩ := odd_part _ f1
      have hml : 2 * m + 1 < 18446744073709551616 := by
        have h1 : 2 ^ k * (2 * m + 1) = fwhole x := by rw [hkm, Nat.pow_succ]; grind
        have h2 : 1 * (2 * m + 1) ≤ 2 ^ k * (2 * m + 1) := Nat.mul_le_mul_right _ (Nat.two_pow_pos k)
        omega
      have key : ∀ W e w', PartsP x W e w' → Three (wds (2 * m + 1)) (wds (2 * m + 1)).length (fpow x + (k : Nat)) 0 W e w' := by
        rintro W e w' ⟨k2, m2, A, n, c, hkm2, rfl, ⟨rfl, hc, hr⟩, hbw⟩
        obtain ⟨rfl, rfl⟩ := odd_one hkm hkm2 (by omega)
        exact ⟨A, c, rfl, ⟨hc, hr⟩, hbw⟩
      refine ⟨wds (2 * m + 1), _, fpow x + (k : Nat), 0, rfl, ?_, fun W hT => (pparts_ok x W hx hb (by omega) hT).mono fun e w' y => key W e w' y, ?_⟩
      · have := nrm_len (two (2 * m + 1))
        rw [two_wds' _ hml] at this
        exact this
      · by_cases hp : fpow x + (k : Nat) < 0
        · exact .inr (.inl ⟨rfl, hp⟩)
        · obtain ⟨q, hq⟩ : ∃ q : Nat, fpow x + (k : Nat) = (q : Int) := ⟨(fpow x + (k : Nat)).toNat, by omega⟩
          obtain ⟨h1, h2⟩ := fl_parts (by omega) g5 hkm hq
          have h3 : 2 * m + 1 ≤ (2 * m + 1) * 2 ^ q := Nat.le_mul_of_pos_right _ (Nat.two_pow_pos q)
          rw [wds_val]
          exact .inr (.inr ⟨rfl, q, hq, lng_fin (fun K hK => Nat.lt_of_le_of_lt h3 (h2 K hK)), lng_fin h2, by rw [h1]; exact eq_self g1⟩)
  · exact ⟨[], 0, 0, 1, rfl, by omega, fun W _ => (pparts_bad x W hb).mono fun e w' ⟨he, hw⟩ => by subst he; subst hw; exact Three.none _ _ _, .inl rfl⟩
theorem lt_of_cell {w : World} {b i : Nat} {v : Value} (h : w.cell? ⟨b, i, none⟩ = some v) : b < w.heap.size := by
  rcases Nat.lt_or_ge b w.heap.size with h' | h'
  · exact h'
  · simp [World.cell?, Array.getElem?_eq_none h'] at h
theorem TzTab.below {w w' : World} (h : TzTab w) (hb : Below w.heap.size w w') : TzTab w' := fun i hi => by
  have h1 := h i hi
  rw [← h1]
  exact hb.cell (lt_of_cell h1)
set_option maxRecDepth 100000 in
set_option maxHeartbeats 2000000 in
theorem back_ok_go (A : Option Addr) (n c x : Nat) (p : Int) (l : List Nat) (w : World) {S : List Nat} {N : Nat} {pw : Int}
    (K1 : RowKit.Hid (∀ W, Below w.heap.size w W → Calls Tryd.prog 7 #[.slice A n c] W (Told l n W)))
    (HT : RowKit.Hid (∀ W, Below w.heap.size w W → TzTab W))
    {M : Nat} {V : List Nat} {Q : ByteArray → Prop}
    (K2 : RowKit.Hid (∀ W A2 c2, n ≤ c2 → RW W W.heap.size A2 l → Calls Tryd.prog 6 #[.slice A2 n c2, .int .i64 p] W fun e w' => ∃ t, e = .returned (.tuple #[.string t, .int .i64 0]) ∧ Q t ∧ Below W.heap.size W w'))
    (K3 : RowKit.Hid (∀ t, Q t → ∀ W, Calls Tryd.prog 9 #[.string t, .int .i64 p] W (Two V M 0 W)))
    (K4 : RowKit.Hid (∀ W, Below w.heap.size w W → Calls Tryd.prog 18 #[.slice A n c] W (Told V M W)))
    (K5 : RowKit.Hid (∀ W A2 A3 c2 c3, RW W W.heap.size A2 V → RW W W.heap.size A3 V → Calls Tryd.prog 11 #[.slice A2 M c2, .slice A3 M c3] W fun e w' => e = .returned (.bool true) ∧ ∃ n, w' = W.drewN n))
    (P1 : RowKit.Hid (∀ W, TzTab W → Calls Tryd.prog 13 #[.float .f64 x] W (Three S N pw 0 W)))
    (hp : ¬ pw < 0) {v : List Nat} {X : Nat} {J : Nat} (ho : (FloatKind.f64.format.order X x == some .eq) = true)
    (K7 : RowKit.Hid (∀ W A2 c2, N ≤ c2 → RW W W.heap.size A2 S → Calls Tryd.prog 7 #[.slice A2 N c2] W (Told S N W)))
    (K8 : RowKit.Hid (∀ W A2 c2, N ≤ c2 → RW W W.heap.size A2 S → Calls Tryd.prog 19 #[.slice A2 N c2, .int .i64 pw] W (Two v J 0 W)))
    (K9 : RowKit.Hid (∀ W A2 c2, J ≤ c2 → RW W W.heap.size A2 v → Calls Tryd.prog 16 #[.slice A2 J c2] W fun e w' => e = .returned (.float .f64 X) ∧ Below W.heap.size W w'))
    : Calls Tryd.prog 5 #[.slice A n c, .int .i64 p, .float .f64 x] w fun e w' => e = .returned (.bool true) ∧ Below w.heap.size w w' := by
  go_enter Tryd.func5, Tryd.ntmps5
  go_wp2_with fail
  refine (K1.out _ (Below.refl _ _)).mono ?_
  rintro e w1 ⟨A1, c1, rfl, ⟨hc1, r1⟩, b1⟩
  go_wp2_with fail
  refine (K2.out _ _ _ hc1 r1).mono ?_
  rintro e w2 ⟨t, rfl, ht, b2⟩
  have B2 := below_le b1 b2
  have D3 := K3.out _ ht
  clear r1 b1 b2 hc1 K1 K2 K3 ht
  go_wp2_with fail
  refine (D3 _).mono ?_
  rintro e w3 ⟨A3, c3, rfl, ⟨hc3, r3⟩, b3⟩
  have B3 := below_le B2 b3
  clear b3 D3
  go_wp2_with fail
  refine (K4.out _ B3).mono ?_
  rintro e w4 ⟨A4, c4, rfl, ⟨hc4, r4⟩, b4⟩
  have B4 := below_le B3 b4
  have R3 := r3.step b4
  clear b4 r3 K4
  go_wp2_with fail
  refine (K5.out _ _ _ _ _ R3 r4).mono ?_
  rintro e w' ⟨rfl, n5, rfl⟩
  have BB := below_drewN' B4 n5
  clear R3 r4 K5 hc3 hc4
  have T0 := HT.out _ BB
  go_wp2_with fail
  refine (P1.out _ T0).mono ?_
  rintro e w8 ⟨A8, c8, rfl, ⟨hc8, r8⟩, b8⟩
  have B8 := below_le BB b8
  clear T0 P1
  go_wp2_with fail
  refine (K7.out _ _ _ hc8 r8).mono ?_
  rintro e w9 ⟨A9, c9, rfl, ⟨hc9, r9⟩, b9⟩
  have B9 := below_le B8 b9
  clear r8 b8 K7
  go_wp2_with fail
  refine (K8.out _ _ _ hc9 r9).mono ?_
  rintro e w10 ⟨A10, c10, rfl, ⟨hc10, r10⟩, b10⟩
  have B10 := below_le B9 b10
  clear r9 b9 K8
  go_wp2_with fail
  refine (K9.out _ _ _ hc10 r10).mono ?_
  rintro e w11 ⟨rfl, b11⟩
  have B11 := below_le B10 b11
  clear r10 b10 K9
  go_wp2_with fail
  refine (awake_any _).mono ?_
  rintro e w12 ⟨rfl, b12⟩
  have B12 := below_le B11 b12
  go_wp2
  go_ret
  exact ⟨rfl, B12⟩
set_option maxRecDepth 100000 in
set_option maxHeartbeats 2000000 in
theorem back_ok_stop (A : Option Addr) (n c x : Nat) (p : Int) (l : List Nat) (w : World) {S : List Nat} {N : Nat} {pw : Int}
    (K1 : RowKit.Hid (∀ W, Below w.heap.size w W → Calls Tryd.prog 7 #[.slice A n c] W (Told l n W)))
    (HT : RowKit.Hid (∀ W, Below w.heap.size w W → TzTab W))
    {M : Nat} {V : List Nat} {Q : ByteArray → Prop}
    (K2 : RowKit.Hid (∀ W A2 c2, n ≤ c2 → RW W W.heap.size A2 l → Calls Tryd.prog 6 #[.slice A2 n c2, .int .i64 p] W fun e w' => ∃ t, e = .returned (.tuple #[.string t, .int .i64 0]) ∧ Q t ∧ Below W.heap.size W w'))
    (K3 : RowKit.Hid (∀ t, Q t → ∀ W, Calls Tryd.prog 9 #[.string t, .int .i64 p] W (Two V M 0 W)))
    (K4 : RowKit.Hid (∀ W, Below w.heap.size w W → Calls Tryd.prog 18 #[.slice A n c] W (Told V M W)))
    (K5 : RowKit.Hid (∀ W A2 A3 c2 c3, RW W W.heap.size A2 V → RW W W.heap.size A3 V → Calls Tryd.prog 11 #[.slice A2 M c2, .slice A3 M c3] W fun e w' => e = .returned (.bool true) ∧ ∃ n, w' = W.drewN n))
    (P1 : RowKit.Hid (∀ W, TzTab W → Calls Tryd.prog 13 #[.float .f64 x] W (Three S N pw 0 W)))
    (hp : pw < 0)
    : Calls Tryd.prog 5 #[.slice A n c, .int .i64 p, .float .f64 x] w fun e w' => e = .returned (.bool true) ∧ Below w.heap.size w w' := by
  go_enter Tryd.func5, Tryd.ntmps5
  go_wp2_with fail
  refine (K1.out _ (Below.refl _ _)).mono ?_
  rintro e w1 ⟨A1, c1, rfl, ⟨hc1, r1⟩, b1⟩
  go_wp2_with fail
  refine (K2.out _ _ _ hc1 r1).mono ?_
  rintro e w2 ⟨t, rfl, ht, b2⟩
  have B2 := below_le b1 b2
  have D3 := K3.out _ ht
  clear r1 b1 b2 hc1 K1 K2 K3 ht
  go_wp2_with fail
  refine (D3 _).mono ?_
  rintro e w3 ⟨A3, c3, rfl, ⟨hc3, r3⟩, b3⟩
  have B3 := below_le B2 b3
  clear b3 D3
  go_wp2_with fail
  refine (K4.out _ B3).mono ?_
  rintro e w4 ⟨A4, c4, rfl, ⟨hc4, r4⟩, b4⟩
  have B4 := below_le B3 b4
  have R3 := r3.step b4
  clear b4 r3 K4
  go_wp2_with fail
  refine (K5.out _ _ _ _ _ R3 r4).mono ?_
  rintro e w' ⟨rfl, n5, rfl⟩
  have BB := below_drewN' B4 n5
  clear R3 r4 K5 hc3 hc4
  have T0 := HT.out _ BB
  go_wp2_with fail
  refine (P1.out _ T0).mono ?_
  rintro e w8 ⟨A8, c8, rfl, ⟨hc8, r8⟩, b8⟩
  have B8 := below_le BB b8
  clear T0 P1
  go_wp2_with fail
  refine (awake_any _).mono ?_
  rintro e w12 ⟨rfl, b12⟩
  have B12 := below_le B8 b12
  go_wp2
  go_ret
  exact ⟨rfl, B12⟩
set_option maxRecDepth 100000 in
set_option maxHeartbeats 2000000 in
theorem back_ok_stopE (A : Option Addr) (n c x : Nat) (p : Int) (l : List Nat) (w : World) {S : List Nat} {N : Nat} {pw : Int}
    (K1 : RowKit.Hid (∀ W, Below w.heap.size w W → Calls Tryd.prog 7 #[.slice A n c] W (Told l n W)))
    (HT : RowKit.Hid (∀ W, Below w.heap.size w W → TzTab W))
    {M : Nat} {V : List Nat} {Q : ByteArray → Prop}
    (K2 : RowKit.Hid (∀ W A2 c2, n ≤ c2 → RW W W.heap.size A2 l → Calls Tryd.prog 6 #[.slice A2 n c2, .int .i64 p] W fun e w' => ∃ t, e = .returned (.tuple #[.string t, .int .i64 0]) ∧ Q t ∧ Below W.heap.size W w'))
    (K3 : RowKit.Hid (∀ t, Q t → ∀ W, Calls Tryd.prog 9 #[.string t, .int .i64 p] W (Two V M 0 W)))
    (K4 : RowKit.Hid (∀ W, Below w.heap.size w W → Calls Tryd.prog 18 #[.slice A n c] W (Told V M W)))
    (K5 : RowKit.Hid (∀ W A2 A3 c2 c3, RW W W.heap.size A2 V → RW W W.heap.size A3 V → Calls Tryd.prog 11 #[.slice A2 M c2, .slice A3 M c3] W fun e w' => e = .returned (.bool true) ∧ ∃ n, w' = W.drewN n))
    (P1 : RowKit.Hid (∀ W, TzTab W → Calls Tryd.prog 13 #[.float .f64 x] W (Three S N pw 1 W)))
    : Calls Tryd.prog 5 #[.slice A n c, .int .i64 p, .float .f64 x] w fun e w' => e = .returned (.bool true) ∧ Below w.heap.size w w' := by
  go_enter Tryd.func5, Tryd.ntmps5
  go_wp2_with fail
  refine (K1.out _ (Below.refl _ _)).mono ?_
  rintro e w1 ⟨A1, c1, rfl, ⟨hc1, r1⟩, b1⟩
  go_wp2_with fail
  refine (K2.out _ _ _ hc1 r1).mono ?_
  rintro e w2 ⟨t, rfl, ht, b2⟩
  have B2 := below_le b1 b2
  have D3 := K3.out _ ht
  clear r1 b1 b2 hc1 K1 K2 K3 ht
  go_wp2_with fail
  refine (D3 _).mono ?_
  rintro e w3 ⟨A3, c3, rfl, ⟨hc3, r3⟩, b3⟩
  have B3 := below_le B2 b3
  clear b3 D3
  go_wp2_with fail
  refine (K4.out _ B3).mono ?_
  rintro e w4 ⟨A4, c4, rfl, ⟨hc4, r4⟩, b4⟩
  have B4 := below_le B3 b4
  have R3 := r3.step b4
  clear b4 r3 K4
  go_wp2_with fail
  refine (K5.out _ _ _ _ _ R3 r4).mono ?_
  rintro e w' ⟨rfl, n5, rfl⟩
  have BB := below_drewN' B4 n5
  clear R3 r4 K5 hc3 hc4
  have T0 := HT.out _ BB
  go_wp2_with fail
  refine (P1.out _ T0).mono ?_
  rintro e w8 ⟨A8, c8, rfl, ⟨hc8, r8⟩, b8⟩
  have B8 := below_le BB b8
  clear T0 P1
  go_wp2_with fail
  refine (awake_any _).mono ?_
  rintro e w12 ⟨rfl, b12⟩
  have B12 := below_le B8 b12
  go_wp2
  go_ret
  exact ⟨rfl, B12⟩
set_option maxRecDepth 100000 in
set_option maxHeartbeats 2000000 in
theorem back_no_go (A : Option Addr) (n c x : Nat) (p : Int) (l : List Nat) (w : World) {S : List Nat} {N : Nat} {pw : Int}
    (K1 : RowKit.Hid (∀ W, Below w.heap.size w W → Calls Tryd.prog 7 #[.slice A n c] W (Told l n W)))
    (HT : RowKit.Hid (∀ W, Below w.heap.size w W → TzTab W))
    {k : Int} (hk : (k == 0) = false)
    (K2 : RowKit.Hid (∀ W A2 c2, n ≤ c2 → RW W W.heap.size A2 l → Calls Tryd.prog 6 #[.slice A2 n c2, .int .i64 p] W fun e w' => e = .returned (.tuple #[.string ByteArray.empty, .int .i64 k]) ∧ Below W.heap.size W w'))
    (P1 : RowKit.Hid (∀ W, TzTab W → Calls Tryd.prog 13 #[.float .f64 x] W (Three S N pw 0 W)))
    (hp : ¬ pw < 0) {v : List Nat} {X : Nat} {J : Nat} (ho : (FloatKind.f64.format.order X x == some .eq) = true)
    (K7 : RowKit.Hid (∀ W A2 c2, N ≤ c2 → RW W W.heap.size A2 S → Calls Tryd.prog 7 #[.slice A2 N c2] W (Told S N W)))
    (K8 : RowKit.Hid (∀ W A2 c2, N ≤ c2 → RW W W.heap.size A2 S → Calls Tryd.prog 19 #[.slice A2 N c2, .int .i64 pw] W (Two v J 0 W)))
    (K9 : RowKit.Hid (∀ W A2 c2, J ≤ c2 → RW W W.heap.size A2 v → Calls Tryd.prog 16 #[.slice A2 J c2] W fun e w' => e = .returned (.float .f64 X) ∧ Below W.heap.size W w'))
    : Calls Tryd.prog 5 #[.slice A n c, .int .i64 p, .float .f64 x] w fun e w' => e = .returned (.bool true) ∧ Below w.heap.size w w' := by
  go_enter Tryd.func5, Tryd.ntmps5
  go_wp2_with fail
  refine (K1.out _ (Below.refl _ _)).mono ?_
  rintro e w1 ⟨A1, c1, rfl, ⟨hc1, r1⟩, b1⟩
  go_wp2_with fail
  refine (K2.out _ _ _ hc1 r1).mono ?_
  rintro e w2 ⟨rfl, b2⟩
  have BB := below_le b1 b2
  clear r1 b1 b2 hc1 K1 K2
  have T0 := HT.out _ BB
  go_wp2_with fail
  refine (P1.out _ T0).mono ?_
  rintro e w8 ⟨A8, c8, rfl, ⟨hc8, r8⟩, b8⟩
  have B8 := below_le BB b8
  clear T0 P1
  go_wp2_with fail
  refine (K7.out _ _ _ hc8 r8).mono ?_
  rintro e w9 ⟨A9, c9, rfl, ⟨hc9, r9⟩, b9⟩
  have B9 := below_le B8 b9
  clear r8 b8 K7
  go_wp2_with fail
  refine (K8.out _ _ _ hc9 r9).mono ?_
  rintro e w10 ⟨A10, c10, rfl, ⟨hc10, r10⟩, b10⟩
  have B10 := below_le B9 b10
  clear r9 b9 K8
  go_wp2_with fail
  refine (K9.out _ _ _ hc10 r10).mono ?_
  rintro e w11 ⟨rfl, b11⟩
  have B11 := below_le B10 b11
  clear r10 b10 K9
  go_wp2_with fail
  refine (awake_any _).mono ?_
  rintro e w12 ⟨rfl, b12⟩
  have B12 := below_le B11 b12
  go_wp2
  go_ret
  exact ⟨rfl, B12⟩
set_option maxRecDepth 100000 in
set_option maxHeartbeats 2000000 in
theorem back_no_stop (A : Option Addr) (n c x : Nat) (p : Int) (l : List Nat) (w : World) {S : List Nat} {N : Nat} {pw : Int}
    (K1 : RowKit.Hid (∀ W, Below w.heap.size w W → Calls Tryd.prog 7 #[.slice A n c] W (Told l n W)))
    (HT : RowKit.Hid (∀ W, Below w.heap.size w W → TzTab W))
    {k : Int} (hk : (k == 0) = false)
    (K2 : RowKit.Hid (∀ W A2 c2, n ≤ c2 → RW W W.heap.size A2 l → Calls Tryd.prog 6 #[.slice A2 n c2, .int .i64 p] W fun e w' => e = .returned (.tuple #[.string ByteArray.empty, .int .i64 k]) ∧ Below W.heap.size W w'))
    (P1 : RowKit.Hid (∀ W, TzTab W → Calls Tryd.prog 13 #[.float .f64 x] W (Three S N pw 0 W)))
    (hp : pw < 0)
    : Calls Tryd.prog 5 #[.slice A n c, .int .i64 p, .float .f64 x] w fun e w' => e = .returned (.bool true) ∧ Below w.heap.size w w' := by
  go_enter Tryd.func5, Tryd.ntmps5
  go_wp2_with fail
  refine (K1.out _ (Below.refl _ _)).mono ?_
  rintro e w1 ⟨A1, c1, rfl, ⟨hc1, r1⟩, b1⟩
  go_wp2_with fail
  refine (K2.out _ _ _ hc1 r1).mono ?_
  rintro e w2 ⟨rfl, b2⟩
  have BB := below_le b1 b2
  clear r1 b1 b2 hc1 K1 K2
  have T0 := HT.out _ BB
  go_wp2_with fail
  refine (P1.out _ T0).mono ?_
  rintro e w8 ⟨A8, c8, rfl, ⟨hc8, r8⟩, b8⟩
  have B8 := below_le BB b8
  clear T0 P1
  go_wp2_with fail
  refine (awake_any _).mono ?_
  rintro e w12 ⟨rfl, b12⟩
  have B12 := below_le B8 b12
  go_wp2
  go_ret
  exact ⟨rfl, B12⟩
set_option maxRecDepth 100000 in
set_option maxHeartbeats 2000000 in
theorem back_no_stopE (A : Option Addr) (n c x : Nat) (p : Int) (l : List Nat) (w : World) {S : List Nat} {N : Nat} {pw : Int}
    (K1 : RowKit.Hid (∀ W, Below w.heap.size w W → Calls Tryd.prog 7 #[.slice A n c] W (Told l n W)))
    (HT : RowKit.Hid (∀ W, Below w.heap.size w W → TzTab W))
    {k : Int} (hk : (k == 0) = false)
    (K2 : RowKit.Hid (∀ W A2 c2, n ≤ c2 → RW W W.heap.size A2 l → Calls Tryd.prog 6 #[.slice A2 n c2, .int .i64 p] W fun e w' => e = .returned (.tuple #[.string ByteArray.empty, .int .i64 k]) ∧ Below W.heap.size W w'))
    (P1 : RowKit.Hid (∀ W, TzTab W → Calls Tryd.prog 13 #[.float .f64 x] W (Three S N pw 1 W)))
    : Calls Tryd.prog 5 #[.slice A n c, .int .i64 p, .float .f64 x] w fun e w' => e = .returned (.bool true) ∧ Below w.heap.size w w' := by
  go_enter Tryd.func5, Tryd.ntmps5
  go_wp2_with fail
  refine (K1.out _ (Below.refl _ _)).mono ?_
  rintro e w1 ⟨A1, c1, rfl, ⟨hc1, r1⟩, b1⟩
  go_wp2_with fail
  refine (K2.out _ _ _ hc1 r1).mono ?_
  rintro e w2 ⟨rfl, b2⟩
  have BB := below_le b1 b2
  clear r1 b1 b2 hc1 K1 K2
  have T0 := HT.out _ BB
  go_wp2_with fail
  refine (P1.out _ T0).mono ?_
  rintro e w8 ⟨A8, c8, rfl, ⟨hc8, r8⟩, b8⟩
  have B8 := below_le BB b8
  clear T0 P1
  go_wp2_with fail
  refine (awake_any _).mono ?_
  rintro e w12 ⟨rfl, b12⟩
  have B12 := below_le B8 b12
  go_wp2
  go_ret
  exact ⟨rfl, B12⟩
set_option maxRecDepth 100000 in
set_option maxHeartbeats 2000000 in
theorem back_any (A : Option Addr) (n c x : Nat) (p : Int) (l : List Nat) (w : World) (hn : l.length = n) (hc : n ≤ c) (hm : n ≤ 35184372087808) (h : RW w w.heap.size A l) (hx : x < 18446744073709551616) (ht : TzTab w) :
    Calls Tryd.prog 5 #[.slice A n c, .int .i64 p, .float .f64 x] w fun e w' => e = .returned (.bool true) ∧ Below w.heap.size w w' := by
  obtain ⟨S, N, pw, er, hN, hN2, P1, hp⟩ := parts_back x hx
  have K1 := Lib.hid (fun W (hb : Below w.heap.size w W) => ownT A n c l W hn (by omega) (h.step hb))
  have HT := Lib.hid (fun W (hb : Below w.heap.size w W) => ht.below hb)
  have K7 := Lib.hid (fun W A2 c2 (h2 : N ≤ c2) (r2 : RW W W.heap.size A2 S) => ownT A2 N c2 S W hN (by omega) r2)
  have go8 : ∀ q : Nat, lngB (val S) = false → lngB (val S * 2 ^ q) = false → ∃ v J, v.length = J ∧ J ≤ 1024 ∧ Ws v ∧ val v = val S * 2 ^ q ∧ ∀ W A2 c2, N ≤ c2 → RW W W.heap.size A2 S → Calls Tryd.prog 19 #[.slice A2 N c2, .int .i64 (q : Int)] W (Two v J 0 W) := by
    intro q h1 h2
    refine ⟨wds (val S * 2 ^ q), _, rfl, lng_le h2, wdsF_ws _ _, wds_val _, fun W A2 c2 h3 r3 => (pshl_any A2 N c2 q S W hN h3 (by omega) r3).mono fun e w' y => ?_⟩
    rw [shlq_ok h1] at y
    have := y.two
    unfold natL natK at this
    rw [if_neg (by rw [h2]; simp), if_neg (by rw [h2]; simp)] at this
    exact this
  have text : (badR p ∨ lngB (val l) = true) ∨ (¬ badR p ∧ lngB (val l) = false) := by
    by_cases hb : badR p
    · exact .inl (.inl hb)
    · cases hl : lngB (val l)
      · exact .inr ⟨hb, rfl⟩
      · exact .inl (.inr rfl)
  rcases text with hb | ⟨hb, hl⟩
  · have K2 : ∃ k : Int, (k == 0) = false ∧ (∀ W A2 c2, n ≤ c2 → RW W W.heap.size A2 l → Calls Tryd.prog 6 #[.slice A2 n c2, .int .i64 p] W fun e w' => e = .returned (.tuple #[.string ByteArray.empty, .int .i64 k]) ∧ Below W.heap.size W w') := by
      by_cases hb1 : badR p
      · refine ⟨1, rfl, fun W A2 c2 h2 r2 => (text_any A2 n c2 p l W hn h2 (by omega) r2).mono fun e w' y => ?_⟩
        obtain ⟨t, k, rfl, h3, h4⟩ := y
        rcases h3 with ⟨_, rfl, rfl⟩ | ⟨h5, _⟩ | ⟨h5, _⟩
        · exact ⟨rfl, h4⟩
        · exact absurd hb1 h5
        · exact absurd hb1 h5
      · have hl := hb.resolve_left hb1
        refine ⟨3, rfl, fun W A2 c2 h2 r2 => (text_any A2 n c2 p l W hn h2 (by omega) r2).mono fun e w' y => ?_⟩
        obtain ⟨t, k, rfl, h3, h4⟩ := y
        rcases h3 with ⟨h5, _⟩ | ⟨_, _, rfl, rfl⟩ | ⟨_, h5, _⟩
        · exact absurd h5 hb1
        · exact ⟨rfl, h4⟩
        · rw [hl] at h5; cases h5
    obtain ⟨k, hk, K2⟩ := K2
    rcases hp with rfl | ⟨rfl, hp⟩ | ⟨rfl, q, rfl, h1, h2, h3⟩
    · exact back_no_stopE A n c x p l w K1 HT hk (Lib.hid K2) (Lib.hid P1)
    · exact back_no_stop A n c x p l w K1 HT hk (Lib.hid K2) (Lib.hid P1) hp
    · obtain ⟨v, J, hJ, hJ2, hv, hvv, K8⟩ := go8 q h1 h2
      rw [← hvv] at h3
      exact back_no_go A n c x p l w K1 HT hk (Lib.hid K2) (Lib.hid P1) (show ¬ (q : Int) < 0 by omega) h3 K7 (Lib.hid K8) (Lib.hid (fun W A2 c2 h4 r4 => pfloat_any A2 J c2 v W hJ h4 (by omega) r4))
  · have hl2 := lng_le hl
    have K2 := Lib.hid (fun W A2 c2 (h2 : n ≤ c2) (r2 : RW W W.heap.size A2 l) => show Calls Tryd.prog 6 #[.slice A2 n c2, .int .i64 p] W (fun e w' => ∃ t, e = .returned (.tuple #[.string t, .int .i64 0]) ∧ TextQ p.toNat (val l) t ∧ Below W.heap.size W w') from
      (text_any A2 n c2 p l W hn h2 (by omega) r2).mono fun e w' y => by
        obtain ⟨t, k, rfl, h3, h4⟩ := y
        rcases h3 with ⟨h5, _⟩ | ⟨_, h5, _⟩ | ⟨_, _, h5, rfl⟩
        · exact absurd h5 hb
        · rw [hl] at h5; cases h5
        · exact ⟨t, rfl, h5, h4⟩)
    have K3 := Lib.hid (fun t (h3 : TextQ p.toNat (val l) t) W => show Calls Tryd.prog 9 #[.string t, .int .i64 p] W (Two (wds (val l)) (wds (val l)).length 0 W) from by
      obtain ⟨K, hK⟩ : ∃ K : Nat, K = 32768 := ⟨_, rfl⟩
      have hs : t.size ≤ K + 1 := textq_size (by unfold badR at hb; omega) h3 (small_pow hl2 (by omega))
      have h4 := parse_any t p W (by omega)
      obtain ⟨h5, h6⟩ := parse_back hb hl h3
      rw [h5, h6] at h4
      exact h4)
    have K4 := Lib.hid (fun W (hb : Below w.heap.size w W) => rnormT A n c l (wds (val l)).length W hn hc (by omega) (h.step hb) (by rw [nrm_wds h.1]))
    rw [nrm_wds h.1] at K4
    have K5 := Lib.hid (fun W A2 A3 c2 c3 (r2 : RW W W.heap.size A2 (wds (val l))) (r3 : RW W W.heap.size A3 (wds (val l))) => same_any A2 A3 (wds (val l)).length c2 c3 (wds (val l)) W.heap.size W.heap.size W rfl (by omega) r2 r3)
    rcases hp with rfl | ⟨rfl, hp⟩ | ⟨rfl, q, rfl, h1, h2, h3⟩
    · exact back_ok_stopE A n c x p l w K1 HT K2 K3 K4 K5 (Lib.hid P1)
    · exact back_ok_stop A n c x p l w K1 HT K2 K3 K4 K5 (Lib.hid P1) hp
    · obtain ⟨v, J, hJ, hJ2, hv, hvv, K8⟩ := go8 q h1 h2
      rw [← hvv] at h3
      exact back_ok_go A n c x p l w K1 HT K2 K3 K4 K5 (Lib.hid P1) (show ¬ (q : Int) < 0 by omega) h3 K7 (Lib.hid K8) (Lib.hid (fun W A2 c2 h4 r4 => pfloat_any A2 J c2 v W hJ h4 (by omega) r4))
end Go.Proofs.YtlabblkonkhmgaaDoor
