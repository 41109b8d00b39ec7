/-
  Contracts of bits.Div32, of a natural copied to a row, and of divideWord.
-/
import Derived.Test.YtlabblkonkhmgaaDoorRow
import Derived.Test.YtlabblkonkhmgaaDoorWordT
import Derived.Test.YtlabblkonkhmgaaDoorOr
namespace Go.Proofs.YtlabblkonkhmgaaDoor
open Go.RowKit
set_option maxHeartbeats 1000000 in
theorem div32_any (hi lo y : Nat) (w : World) (h : hi < y) (hl : lo < 4294967296) (hy : y < 4294967296) :
    Calls Tryd.prog 50 #[.int .u32 hi, .int .u32 lo, .int .u32 y] w fun e w' => e = .returned (.tuple #[.int .u32 (((hi * 4294967296 + lo) / y : Nat) : Int), .int .u32 (((hi * 4294967296 + lo) % y : Nat) : Int)]) ∧ ∃ j, w' = w.drewN j := by
  have k1 : IntKind.u64.wrap (hi : Int) = (hi : Int) := IntWalk.u64_in _ (by omega)
  have k2 : IntKind.u64.wrap (lo : Int) = (lo : Int) := IntWalk.u64_in _ (by omega)
  have k3 : IntKind.u64.wrap (y : Int) = (y : Int) := IntWalk.u64_in _ (by omega)
  obtain ⟨U, hU⟩ : ∃ U, hi * 4294967296 = U := ⟨_, rfl⟩
  have k4 : IntKind.u64.wrap ((hi : Int) * 4294967296) = (U : Int) := by rw [IntWalk.u64_in _ (by omega)]; omega
  have hor := two_word hi lo hl
  rw [hU] at hor ⊢
  obtain ⟨t, ht⟩ : ∃ t, U + lo = t := ⟨_, rfl⟩
  rw [ht] at hor ⊢
  have k5 : bits BinOp.or IntKind.u64 (U : Int) (lo : Int) = (t : Int) := by rw [or_u64 U lo (by omega) (by omega), hor]
  have hq : t / y < 4294967296 := by rw [Nat.div_lt_iff_lt_mul (by omega)]; have : (hi + 1) * 4294967296 ≤ y * 4294967296 := Nat.mul_le_mul_right _ h; omega
  have hr : t % y < 4294967296 := Nat.lt_trans (Nat.mod_lt _ (by omega)) hy
  obtain ⟨q, hqe⟩ : ∃ q, t / y = q := ⟨_, rfl⟩
  obtain ⟨r, hre⟩ : ∃ r, t % y = r := ⟨_, rfl⟩
  have k6 : (t : Int) / (y : Int) = (q : Int) := by rw [← hqe]; exact (Int.natCast_ediv t y).symm
  have k7 : (t : Int) % (y : Int) = (r : Int) := by rw [← hre]; exact (Int.natCast_emod t y).symm
  rw [hqe] at hq ⊢
  rw [hre] at hr ⊢
  have k8 : IntKind.u32.wrap (q : Int) = (q : Int) := IntWalk.u32_in _ (by omega)
  have k10 : IntKind.u64.wrap (q : Int) = (q : Int) := IntWalk.u64_in _ (by omega)
  have k9 : IntKind.u32.wrap (r : Int) = (r : Int) := IntWalk.u32_in _ (by omega)
  have y0 : ((y : Int) == 0) = false := by simp; omega
  have y1 : (hi : Int) < (y : Int) := by omega
  have y2 : ¬ (y : Int) = 0 := by omega
  clear h hl hy hU hor ht hq hr hqe hre
  go_enter Tryd.func50, Tryd.ntmps50
  go_wp2
  go_quiet (fail)
  go_wp2
  go_ret2
  exact ⟨rfl, _, rfl⟩
/-- Norm of the program tells a new row of just the natural's words. -/
theorem norm_row (A : Option Addr) (n c : Nat) (l : List Nat) (w : World) (hn : l.length = n) (hc : n ≤ c) (hm : n ≤ 35184372088832) (h : RW w w.heap.size A l) :
    Calls Tryd.prog 21 #[.slice A n c] w (fun e w' => e = .returned (.slice (some ⟨w.heap.size, 0, none⟩) (nrm l).length (nrm l).length) ∧ Row w' w.heap.size (nrm l) ∧ Below w.heap.size w w') := by
  have c1 := fun W (h : RW W w.heap.size A l) => cut_any A n c l w.heap.size W hn hc hm h
  obtain ⟨m, hm0⟩ : ∃ m, (nrm l).length = m := ⟨_, rfl⟩
  have hle : m ≤ n := by rw [← hm0, ← hn]; exact nrm_len l
  rw [hm0] at c1 ⊢
  have hmk := run_make_row' (P := Tryd.prog) 22 42 (.int .u32 0) 4 Tryd.underlying22 infoW rfl .i64 .i64 m (by omega) (by omega) w
  have hmade := World.rowIs_made w (.int .u32 0) m 42
  have HC := Lib.hid (h.nrm)
  have HM := Lib.hid hm0
  have hm1 : (m : Int) ≤ 35184372088832 := by omega
  have HR := Lib.hid h
  have HX := Lib.hid hmade
  clear h hn hc hm hm0 hle hmade
  go_enter Tryd.func21, Tryd.ntmps21
  go_wp2_with (first | (go_at_call 24; refine (c1 _ HR.out).mono ?_; rintro e w' ⟨rfl, rfl⟩) | (with_reducible refine wpList_copy_splice rfl (.tmp 9) (.tmp 10) 22 22 rfl 42 Tryd.underlying22 (by kernel_rfl) (some ⟨w.heap.size, 0, none⟩) A m m m m ?e1 ?e2 w.heap.size 0 (List.replicate m (.int .u32 0)) 42 ?k1 ((nrm l).map fun u => Value.int .u32 (u : Nat)) ?k2 ?k3 ?k4 ?k5 w.heap.size w ?k6 (Nat.le_refl _) ?_))
  case e1 => rfl
  case e2 => rfl
  case k1 =>
    have e := heap_alloc_new w (.cells (madeCells #[Value.int .u32 0] m) 42)
    rw [show madeCells #[Value.int .u32 0] m = (List.replicate m (Value.int .u32 0)).toArray from Array.toList_inj.1 (by rw [toList_madeCells_one, List.toList_toArray])] at e ⊢
    exact e
  case k2 => rw [List.length_map, HM.out]; exact (Nat.min_self _).symm
  case k3 =>
    intro hp
    have hp' : 0 < (nrm l).length := by simpa using hp
    obtain ⟨b, off, e, hb, hc⟩ := HC.out.2 hp'
    refine ⟨⟨b, off, none⟩, e, fun j u hu => ?_⟩
    rw [World.cell?_alloc_lt]
    · exact rw_news hc j _ (by rw [List.getElem?_map, hu]; rfl)
    · unfold Addr.add; split <;> exact hb
  case k4 => rw [List.length_map, HM.out, List.length_replicate]; omega
  case k5 => exact rw_one _
  case k6 => exact (Below.refl _ _).alloc (Nat.le_refl _) _
  intro w2 HG2 hB2
  go_wp2
  go_ret
  refine ⟨rfl, ?_, hB2⟩
  have hG := HG2.out
  have e : splice (List.replicate m (Value.int .u32 0)) 0 ((nrm l).map fun u => Value.int .u32 (u : Nat)) = (nrm l).map fun u => Value.int .u32 (u : Nat) := by
    unfold splice
    rw [List.take_zero, List.nil_append, List.drop_of_length_le (by rw [List.length_replicate, List.length_map, HM.out]; omega), List.append_nil]
  rw [e] at hG
  exact hG
set_option maxRecDepth 100000 in
set_option maxHeartbeats 2000000 in
theorem divideWord_any (g n c d : Nat) (a : List Nat) (w : World) (hR : Row w g a) (hw : Ws a) (hn : a.length = n) (hm : n ≤ 35184372088832) (hd : d < 4294967296) (hd0 : 0 < d) :
    Calls Tryd.prog 23 #[.slice (some ⟨g, 0, none⟩) n c, .int .u32 d] w (fun e w' => e = .returned (.int .u32 ((val a % d : Nat) : Int)) ∧ ∃ S, Row w' g S ∧ S.length = n ∧ Ws S ∧ val S = val a / d ∧ Below g w w') := by
  have HR := Lib.hid hR
  have HW := Lib.hid hw
  have HN := Lib.hid hn
  have hm1 : (n : Int) ≤ 35184372088832 := by omega
  have HD := Lib.hid hd
  have HD0 := Lib.hid hd0
  have HST := Lib.hid (show WordT a d n a 0 from hn ▸ WordT.start hw hd0)
  clear hR hw hn hm hd hd0
  go_enter Tryd.func23, Tryd.ntmps23
  go_wp2
  go_loopw [5, 6] (fun v i wr => ∃ (k : Nat) (S : List Nat) (r : Nat), i = .int .i64 ((k : Int) - 1) ∧ v = .int .u32 (r : Nat) ∧ k ≤ n ∧ Hid (Row wr g S) ∧ Hid (WordT a d k S r) ∧ Below g w wr) (fun _ i _ => (intOf i + 1).toNat)
  case atStart => exact ⟨n, a, 0, rfl, rfl, Nat.le_refl _, HR, HST, Below.refl _ _⟩
  case round =>
    obtain ⟨k, S, r, rfl, rfl, hk, HS, HT, hbw⟩ := hrel
    by_cases h0 : k = 0
    · subst h0
      obtain ⟨f1, f2⟩ := HT.out.fin
      have HF := Lib.hid f1
      have HL := Lib.hid HT.out.len
      rw [f2]
      clear f1 f2
      go_wp2
      go_ret
      exact ⟨rfl, S, HS.out, by rw [HL.out, HN.out], HT.out.ws, HF.out, hbw⟩
    · obtain ⟨j, rfl⟩ : ∃ j, k = j + 1 := ⟨k - 1, by omega⟩
      have hja : j < a.length := by rw [HN.out]; omega
      obtain ⟨e1, e2, hnx⟩ := HT.out.next HW.out hja HD.out
      have hcell := HS.out.cell j (by rw [HT.out.len]; exact hja)
      have hfz := HS.out.frozen j
      have hx := HW.out.getD j
      have C1 := Lib.hid (fun W => div32_any r (a.getD j 0) d W HT.out.low hx HD.out)
      rw [e1] at hcell
      obtain ⟨x, hxe⟩ : ∃ x, a.getD j 0 = x := ⟨_, rfl⟩
      rw [hxe] at hcell C1 hnx
      obtain ⟨q, hq⟩ : ∃ q, (r * 4294967296 + x) / d = q := ⟨_, rfl⟩
      obtain ⟨z, hz⟩ : ∃ z, (r * 4294967296 + x) % d = z := ⟨_, rfl⟩
      rw [hq, hz] at C1 hnx
      have HNX := Lib.hid hnx
      have hjn : (j : Int) < (n : Int) := by omega
      have k1 : IntKind.i64.wrap ((j : Int) - 1) = (j : Int) - 1 := IntWalk.i64_in _ (by omega)
      clear e1 e2 hnx hja hx hxe hq hz h0
      rw [show (((j + 1 : Nat) : Int) - 1) = (j : Int) by omega]
      go_wp2_with (go_at_call 50; refine (C1.out _).mono ?_; rintro e w' ⟨rfl, j2, rfl⟩)
      go_roundw
      case rel => exact ⟨j, _, z, by go_num, rfl, by omega, Lib.hid ((HS.out.drewN j2).set j q), HNX, (below_drewN' hbw j2).setCell (Nat.le_refl _) _⟩
      case measure => simp [intOf]
end Go.Proofs.YtlabblkonkhmgaaDoor
