/-
  Contract of Up of the reference.
-/
import Derived.Test.YtclggnaljijjoaaPShl
namespace Go.Proofs.Ytclggnaljijjoaa
open Go.RowKit
/-- The words of a times 2^(32 o + s), one appended to the other. -/
structure UpT (o : Nat) (a : List Nat) (s i : Nat) (S : List Nat) : Prop where
  len : S.length = o + i
  ws : Ws S
  sum : val S + 4294967296 ^ (o + i) * carL a s i = 4294967296 ^ o * (2 ^ s * val (a.take i))
theorem UpT.start (o : Nat) (a : List Nat) (s : Nat) : UpT o a s 0 (List.replicate o 0) := ⟨List.length_replicate, Ws.zeros _, by simp [val, carL, val_zeros]⟩
theorem carL_next (a : List Nat) (s i : Nat) (hs : s ≤ 32) : carL a s (i + 1) = a.getD i 0 * 2 ^ s / 4294967296 := by
  unfold carL; rw [if_neg (by omega), Nat.add_sub_cancel, mul_div_low _ s hs]
theorem UpT.next {o : Nat} {a : List Nat} {s i : Nat} {S : List Nat} (h : UpT o a s i S) (ha : Ws a) (hs : s ≤ 32) : UpT o a s (i + 1) (S ++ [shlW a s i]) := by
  obtain ⟨h1, h2, h3⟩ := h
  refine ⟨by rw [List.length_append, h1]; rfl, h2.append (Ws.cons (shlW_lt ha s i hs) Ws.nil), ?_⟩
  rw [val_snoc, h1, val_take_next, carL_next a s i hs]
  have e := step_words (4294967296 ^ (o + i)) (a.getD i 0 * 2 ^ s) (val S + 4294967296 ^ (o + i) * carL a s i) (4294967296 ^ o * (2 ^ s * (val (a.take i) + 4294967296 ^ i * a.getD i 0))) (by rw [h3, Nat.pow_add]; grind)
  rw [show o + (i + 1) = o + i + 1 by omega, Nat.pow_succ]
  unfold shlW
  grind
theorem UpT.whole {o : Nat} {a : List Nat} {s : Nat} {S : List Nat} (h : UpT o a s a.length S) : val (S ++ [carL a s a.length]) = val a * 2 ^ (32 * o + s) := by
  have h3 := h.sum
  rw [List.take_of_length_le (Nat.le_refl _)] at h3
  rw [val_snoc, h.len, h3, pow32, Nat.pow_add]
  grind
theorem carL_lt {a : List Nat} (ha : Ws a) (s i : Nat) (hs : s ≤ 32) : carL a s i < 2 ^ s := by
  unfold carL
  split
  · exact Nat.two_pow_pos s
  · exact div_lt_low _ s hs (ha.getD _)
theorem or_u64 (p q : Nat) (hp : p < 18446744073709551616) (hq : q < 18446744073709551616) : bits BinOp.or IntKind.u64 (p : Int) (q : Int) = ((p ||| q : Nat) : Int) := by
  show IntKind.u64.wrap ((BitVec.ofInt 64 (p : Int) ||| BitVec.ofInt 64 (q : Int)).toNat : Int) = _
  have e1 : (BitVec.ofInt 64 (p : Int)).toNat = p := by rw [BitVec.ofInt_natCast, BitVec.toNat_ofNat]; exact Nat.mod_eq_of_lt (by omega)
  have e2 : (BitVec.ofInt 64 (q : Int)).toNat = q := by rw [BitVec.ofInt_natCast, BitVec.toNat_ofNat]; exact Nat.mod_eq_of_lt (by omega)
  have h : p ||| q < 18446744073709551616 := Nat.or_lt_two_pow (n := 64) hp hq
  rw [BitVec.toNat_or, e1, e2, IntKind.wrap_u64]
  omega
theorem up_word (x k s : Nat) (hx : x < 4294967296) (hs : s < 32) (hk : k < 2 ^ s) : x * 2 ^ s < 18446744073709551616 ∧ k < 4294967296 ∧ (x * 2 ^ s ||| k) = x * 2 ^ s + k ∧ (x * 2 ^ s + k) % 4294967296 = x * 2 ^ s % 4294967296 + k ∧ (x * 2 ^ s + k) / 4294967296 = x * 2 ^ s / 4294967296 ∧ x * 2 ^ s + k < 18446744073709551616 := by
  have h1 : x * 2 ^ s ≤ x * 2 ^ 32 := Nat.mul_le_mul_left _ (Nat.pow_le_pow_right (by omega) (by omega))
  have h2 : 2 ^ s ≤ 2 ^ 31 := Nat.pow_le_pow_right (by omega) (by omega)
  have h3 : x * 2 ^ s ||| k = x * 2 ^ s + k := by rw [Nat.mul_comm, Nat.two_pow_add_eq_or_of_lt hk]
  have h4 := mul_mod_low x s (by omega)
  have h5 : 2 ^ s * (x % 2 ^ (32 - s) + 1) ≤ 2 ^ s * 2 ^ (32 - s) := Nat.mul_le_mul_left _ (Nat.mod_lt _ (Nat.two_pow_pos _))
  rw [pow_parts (by omega : s ≤ 32), Nat.mul_add, Nat.mul_one, ← h4] at h5
  generalize 2 ^ s = P at *
  generalize x * P = y at *
  refine ⟨by omega, by omega, h3, by omega, by omega, by omega⟩
set_option maxRecDepth 100000 in
set_option maxHeartbeats 1000000 in
theorem up_zero (A : Option Addr) (n c : Nat) (p : Int) (l : List Nat) (w : World) (hn : l.length = n) (hc : n ≤ c) (hm : n ≤ 4096) (h : RW w w.heap.size A l) (h0 : nrm l = []) :
    Calls Try.prog 55 #[.slice A n c, .int .i64 p] w (SlPost [] w) := by
  have c1 := (rnorm_any A n c l w.heap.size w hn hc (by omega) h).mono (fun e w' x => SlPost.of h.1.nrm x)
  rw [h0] at c1
  clear hn hc hm h h0
  go_enter Try.func55, Try.ntmps55
  go_wp2_with fail
  refine c1.mono ?_
  rintro e w1 ⟨v1, rfl, ⟨A1, c1, rfl, _, _⟩, b1⟩
  go_wp2
  go_ret
  exact ⟨_, rfl, Sl.nil _ _ _, b1⟩
set_option maxRecDepth 100000 in
set_option maxHeartbeats 2000000 in
theorem up_some (A : Option Addr) (n c p o s : Nat) (l : List Nat) (w : World) (hn : l.length = n) (hc : n ≤ c) (hm : n ≤ 4096) (h : RW w w.heap.size A l) (h0 : nrm l ≠ []) (hpo : p = 32 * o + s) (hs : s < 32) (ho : o ≤ 1024) :
    Calls Try.prog 55 #[.slice A n c, .int .i64 p] w (SlPost (wds (val l * 2 ^ p)) w) := by
  obtain ⟨i0, hi, hz0, hz1, hz2⟩ := info_parts infoW
  have c1 := (rnorm_any A n c l w.heap.size w hn hc (by omega) h).mono (fun e w' x => SlPost.of h.1.nrm x)
  have hpos : 0 < (nrm l).length := List.length_pos_iff.2 h0
  have hle := nrm_len l
  obtain ⟨N, hN⟩ : ∃ N, (nrm l).length = N := ⟨_, rfl⟩
  have HNN := Lib.hid hN
  rw [hN] at hpos hle
  obtain ⟨b, off, rfl, hb, hcell⟩ := h.2 (by omega)
  have HCELL := Lib.hid hcell
  have HA := Lib.hid h
  have HN := Lib.hid hn
  have HP := Lib.hid hpo
  have HS := Lib.hid hs
  have hN0 : ((N : Int) == 0) = false := by simp; omega
  have hN1 : (N : Int) ≤ 4096 := by omega
  have hn1 : (n : Int) ≤ 4096 := by omega
  have ho1 : (o : Int) ≤ 1024 := by omega
  have hs1 : (s : Int) < 32 := by omega
  have hs0 : (0 : Int) ≤ (s : Int) := by omega
  have e3 : (p : Int) / 32 = (o : Int) := by omega
  have e4 : (p : Int) % 32 = (s : Int) := by omega
  have p0 : (0 : Int) ≤ (p : Int) := by omega
  have HMK := Lib.hid (fun W => run_make_row' (P := Try.prog) 22 40 (.int .u32 0) 4 Try.underlying22 infoW rfl .i64 .i64 o (by omega) (by omega) W)
  clear hn hc hm h h0 hN hpos hle hcell hpo hs
  go_enter Try.func55, Try.ntmps55
  go_wp2_with fail
  refine c1.mono ?_
  rintro e w1 ⟨v1, rfl, ⟨A1, d1, rfl, _, _⟩, b1⟩
  rw [HNN.out]
  have hmk := HMK.out w1
  have HROW := Lib.hid (Row.made w1 o)
  have HB1 := Lib.hid (show Below w.heap.size w (w1.alloc (.cells (madeCells #[.int .u32 0] o) 40)) from b1.alloc b1.size _)
  have HOWN := Lib.hid (show OwnW w.heap.size (List.replicate o 0) (.slice (some ⟨w1.heap.size, 0, none⟩) o o) (w1.alloc (.cells (madeCells #[.int .u32 0] o) 40)) from by
    have := HROW.out.own b1.size (by rw [List.length_replicate]; unfold maxLen; omega)
    rw [List.length_replicate] at this; exact this)
  have HSTART := Lib.hid (UpT.start o l s)
  clear b1 c1 ho
  go_wp2
  clear hmk
  go_loopw [5, 6, 7] (fun v cv i wr => ∃ (q : Nat) (S : List Nat), i = .int .i64 q ∧ cv = .int .u64 (carL l s q : Nat) ∧ q ≤ n ∧ Hid (OwnW w.heap.size S v wr) ∧ Hid (UpT o l s q S) ∧ Below w.heap.size w wr) (fun _ _ i _ => n - (intOf i).toNat)
  case atStart => exact ⟨0, _, rfl, by simp [carL], Nat.zero_le _, HOWN, HSTART, HB1.out⟩
  case round =>
    obtain ⟨q, S, rfl, rfl, hq, HO, HT, hbw⟩ := hrel
    have HSL := Lib.hid (show (S.length + 1) * 4 ≤ 140737488355328 ∧ S.length + 1 ≤ maxLen ∧ S.length + 1 ≤ 35184372088832 by have := HT.out.len; unfold maxLen; omega)
    by_cases hlt : q < n
    · have hcl : wr.cell? ⟨b, off + q, none⟩ = some (.int .u32 (l.getD q 0 : Nat)) := by
        rw [hbw.cell (p := ⟨b, off + q, none⟩) hb]; exact HCELL.out q _ (getD_some (by rw [HN.out]; exact hlt))
      have HNX := Lib.hid (HT.out.next HA.out.1 (by have := HS.out; omega))
      have HNC := Lib.hid (carL_next l s q (by have := HS.out; omega))
      have hkl := carL_lt HA.out.1 s q (by have := HS.out; omega)
      have hxl := HA.out.1.getD q
      have HW := Lib.hid (show shlW l s q = l.getD q 0 * 2 ^ s % 4294967296 + carL l s q from rfl)
      obtain ⟨x, hx⟩ : ∃ x, l.getD q 0 = x := ⟨_, rfl⟩
      obtain ⟨k, hk⟩ : ∃ k, carL l s q = k := ⟨_, rfl⟩
      rw [hx] at hcl hxl HW HNC
      rw [hk] at hkl HW ⊢
      have HU := Lib.hid (up_word x k s hxl HS.out hkl)
      have hqq : (q : Int) < (n : Int) := by omega
      obtain ⟨y, hy⟩ : ∃ y, x * 2 ^ s = y := ⟨_, rfl⟩
      have k1 : IntKind.u64.wrap (x : Int) = (x : Int) := IntWalk.u64_in _ (by omega)
      have k2 : IntKind.u64.wrap ((x : Int) * 2 ^ s) = (y : Int) := by
        have e : ((x : Int) * 2 ^ s) = ((x * 2 ^ s : Nat) : Int) := by rw [Int.natCast_mul, Int.natCast_pow]; rfl
        rw [e, hy]
        exact IntWalk.u64_in _ (by have := HU.out.1; omega)
      obtain ⟨u1, u2, u3, u4, u5, u6⟩ := HU.out
      rw [hy] at u1 u3 u4 u5 u6 HW HNC
      obtain ⟨t, ht⟩ : ∃ t, y + k = t := ⟨_, rfl⟩
      rw [ht] at u3 u4 u5 u6
      have k3 : bits BinOp.or IntKind.u64 (y : Int) (k : Int) = (t : Int) := by rw [or_u64 y k u1 (by omega), u3]
      have ew : shlW l s q = t % 4294967296 := by rw [HW.out, u4]
      have ec : carL l s (q + 1) = t / 4294967296 := by rw [HNC.out, u5]
      rw [ew] at HNX
      have HEC := Lib.hid ec
      clear hx hk hkl hxl hlt hq u1 u2 u3 u4 u5 u6 ew ec ht hy HU HW HNC
      go_wp2_with (at_builtin; refine wpList_append_own _ rfl _ _ 22 rfl w.heap.size 40 i0 (.int .u32 0) 1 4 Try.underlying22 hi hz0 hz1 hz2 rfl (by decide) _ _ _ rfl (World.ownsRow.alloc (w := wr) HO.out _) ⟨wr.heap.size, 0, none⟩ 1 1 [.int .u32 ((t % 4294967296 : Nat) : Int)] rfl rfl ?c1 ?c2 ?c3 ?c4 ?c5 ?_)
      case c1 => exact (cell_one_new _ _ _)
      case c2 => simp [Value.oneCell']
      case c3 => exact HSL.out.2.1
      case c4 => exact HSL.out.1
      case c5 => have := hbw.size; simp; omega
      intro v' w2 hown hg _
      have HO2 := Lib.hid (OwnW.snoc hown)
      have hbb : Below w.heap.size w w2 := (hbw.alloc hbw.size _).grown hg (by have := hbw.size; simp; omega) (fun j hj => (World.ownsRow.lt HO.out j hj).1)
      clear hown hg
      go_wp2
      go_roundw
      case rel => exact ⟨q + 1, _, by go_num, by rw [HEC.out]; go_num, by omega, HO2, HNX, hbb⟩
      case measure => simp [intOf]; omega
    · have hqn : q = n := by omega
      subst hqn
      have HT2 := Lib.hid (show UpT o l s l.length S by rw [HN.out]; exact HT.out)
      have hk2 := carL_lt HA.out.1 s l.length (by have := HS.out; omega)
      have HV := HT2.out.whole
      have hlen := HT2.out.len
      rw [HN.out] at hk2 HV hlen
      obtain ⟨r, hr⟩ : ∃ r, carL l s q = r := ⟨_, rfl⟩
      rw [hr] at hk2 HV ⊢
      have hrl : r < 4294967296 := Nat.lt_of_lt_of_le hk2 (show 2 ^ s ≤ 2 ^ 32 from Nat.pow_le_pow_right (by omega) (by have := HS.out; omega))
      have k1 : IntKind.u32.wrap (r : Int) = (r : Int) := IntWalk.u32_in _ (by omega)
      have HE1 := Lib.hid (HT2.out.ws.append (Ws.cons hrl Ws.nil))
      have HE2 := Lib.hid (show nrm (S ++ [r]) = wds (val l * 2 ^ p) by rw [nrm_wds HE1.out, HV, HP.out])
      clear hk2 HV hlen hr hrl hlt hq
      go_wp2_with (at_builtin; refine wpList_append_own _ rfl _ _ 22 rfl w.heap.size 40 i0 (.int .u32 0) 1 4 Try.underlying22 hi hz0 hz1 hz2 rfl (by decide) _ _ _ rfl (World.ownsRow.alloc (w := wr) HO.out _) ⟨wr.heap.size, 0, none⟩ 1 1 [.int .u32 (r : Nat)] rfl rfl ?c1 ?c2 ?c3 ?c4 ?c5 ?_)
      case c1 => exact (cell_one_new _ _ _)
      case c2 => simp [Value.oneCell']
      case c3 => exact HSL.out.2.1
      case c4 => exact HSL.out.1
      case c5 => have := hbw.size; simp; omega
      intro v' w2 hown hg _
      have ho := OwnW.snoc hown
      have hbb : Below w.heap.size w w2 := (hbw.alloc hbw.size _).grown hg (by have := hbw.size; simp; omega) (fun j hj => (World.ownsRow.lt HO.out j hj).1)
      obtain ⟨A2, c2, hv, hcc, hr2⟩ := ho.sl HE1.out
      obtain ⟨N2, hN2⟩ : ∃ N2, (S ++ [r]).length = N2 := ⟨_, rfl⟩
      have C3 := Lib.hid (rnorm_any A2 N2 c2 (S ++ [r]) w2.heap.size w2 hN2 (by rw [← hN2]; exact hcc) (by rw [← hN2, List.length_append]; exact HSL.out.2.2) hr2)
      rw [hN2] at hv
      clear hown hg ho hr2 hcc hN2
      subst hv
      go_wp2_with fail
      refine C3.out.mono ?_
      rintro e w3 ⟨v3, rfl, ho3, hb3⟩
      rw [HE2.out] at ho3
      have HO3 := Lib.hid (ho3.sl (wds_ws _))
      clear ho3 C3
      go_wp2
      go_ret
      exact ⟨_, rfl, HO3.out, below_le hbb hb3⟩
theorem up_any (A : Option Addr) (n c p : Nat) (l : List Nat) (w : World) (hn : l.length = n) (hc : n ≤ c) (hm : n ≤ 4096) (h : RW w w.heap.size A l) (hp : p ≤ 32768) :
    Calls Try.prog 55 #[.slice A n c, .int .i64 p] w (SlPost (wds (val l * 2 ^ p)) w) := by
  by_cases h0 : nrm l = []
  · have := up_zero A n c p l w hn hc hm h h0
    rw [← val_nrm l, h0, show val [] = 0 from rfl, Nat.zero_mul]
    exact this
  · exact up_some A n c p (p / 32) (p % 32) l w hn hc hm h h0 (by omega) (by omega) (by omega)
end Go.Proofs.Ytclggnaljijjoaa
