/-
  Contract of divideWord on the first words of a row; bytes of the call's own beside it.
-/
import Derived.Test.YtlabblkonkhmgaaDoorDivW
import Derived.Test.YtlabblkonkhmgaaDoorAdd
import Derived.Test.YtlabblkonkhmgaaDoorBytes
namespace Go.Proofs.YtlabblkonkhmgaaDoor
open Go.RowKit
theorem getD_left {l Z : List Nat} {j : Nat} (h : j < l.length) : (l ++ Z).getD j 0 = l.getD j 0 := by
  rw [List.getD_eq_getElem?_getD, List.getD_eq_getElem?_getD, List.getElem?_append_left h]
theorem set_left {l Z : List Nat} {j q : Nat} (h : j < l.length) : (l ++ Z).set j q = l.set j q ++ Z := by
  rw [List.set_append_left _ _ h]
theorem Own8.only {g B : Nat} {l : List Nat} {v : Value} {w w' : World} (h : Own8 B l v w) (hb : Only g w w') (hg : g < B) : Own8 B l v w' := by
  refine World.ownsRow.kept (row := some g) h ⟨hb.below.os, hb.below.tape, hb.below.output, hb.below.size, fun k _ hne => hb.far k (fun e => hne (by rw [e]))⟩ ?_
  cases hv : v.ownBlock with
  | none => exact .inl rfl
  | some b =>
    right
    intro e
    have := (World.ownsRow.lt h b hv).1
    cases e
    omega
set_option maxRecDepth 100000 in
set_option maxHeartbeats 2000000 in
theorem divideWord_part (g n c d : Nat) (a Z : List Nat) (w : World) (hR : Row w g (a ++ Z)) (hw : Ws a) (hn : a.length = n) (hm : n ≤ 35184372088832) (hd : d < 4294967296) (hd0 : 0 < d) :
    Calls Tryd.prog 23 #[.slice (some ⟨g, 0, none⟩) n c, .int .u32 d] w (fun e w' => e = .returned (.int .u32 ((val a % d : Nat) : Int)) ∧ ∃ S, Row w' g (S ++ Z) ∧ S.length = n ∧ Ws S ∧ val S = val a / d ∧ Only g w w') := by
  have HR := Lib.hid hR
  have HW := Lib.hid hw
  have HN := Lib.hid hn
  have hm1 : (n : Int) ≤ 35184372088832 := by omega
  have HD := Lib.hid hd
  have HD0 := Lib.hid hd0
  have HST := Lib.hid (show WordT a d n a 0 from hn ▸ WordT.start hw hd0)
  clear hR hw hn hm hd hd0
  go_enter Tryd.func23, Tryd.ntmps23
  go_wp2
  go_loopw [5, 6] (fun v i wr => ∃ (k : Nat) (S : List Nat) (r : Nat), i = .int .i64 ((k : Int) - 1) ∧ v = .int .u32 (r : Nat) ∧ k ≤ n ∧ Hid (Row wr g (S ++ Z)) ∧ Hid (WordT a d k S r) ∧ Only g w wr) (fun _ i _ => (intOf i + 1).toNat)
  case atStart => exact ⟨n, a, 0, rfl, rfl, Nat.le_refl _, HR, HST, Only.refl _ _⟩
  case round =>
    obtain ⟨k, S, r, rfl, rfl, hk, HS, HT, hbw⟩ := hrel
    by_cases h0 : k = 0
    · subst h0
      obtain ⟨f1, f2⟩ := HT.out.fin
      have HF := Lib.hid f1
      have HL := Lib.hid HT.out.len
      rw [f2]
      clear f1 f2
      go_wp2
      go_ret
      exact ⟨rfl, S, HS.out, by rw [HL.out, HN.out], HT.out.ws, HF.out, hbw⟩
    · obtain ⟨j, rfl⟩ : ∃ j, k = j + 1 := ⟨k - 1, by omega⟩
      have hja : j < a.length := by rw [HN.out]; omega
      obtain ⟨e1, e2, hnx⟩ := HT.out.next HW.out hja HD.out
      have hjS : j < S.length := by rw [HT.out.len]; exact hja
      have hcell := HS.out.cell j (by rw [List.length_append]; omega)
      rw [getD_left hjS] at hcell
      have hfz := HS.out.frozen j
      have hx := HW.out.getD j
      have C1 := Lib.hid (fun W => div32_any r (a.getD j 0) d W HT.out.low hx HD.out)
      rw [e1] at hcell
      obtain ⟨x, hxe⟩ : ∃ x, a.getD j 0 = x := ⟨_, rfl⟩
      rw [hxe] at hcell C1 hnx
      obtain ⟨q, hq⟩ : ∃ q, (r * 4294967296 + x) / d = q := ⟨_, rfl⟩
      obtain ⟨z, hz⟩ : ∃ z, (r * 4294967296 + x) % d = z := ⟨_, rfl⟩
      rw [hq, hz] at C1 hnx
      have HNX := Lib.hid hnx
      have hjn : (j : Int) < (n : Int) := by omega
      have k1 : IntKind.i64.wrap ((j : Int) - 1) = (j : Int) - 1 := IntWalk.i64_in _ (by omega)
      have HJS := Lib.hid hjS
      clear hjS
      clear e1 e2 hnx hja hx hxe hq hz h0
      rw [show (((j + 1 : Nat) : Int) - 1) = (j : Int) by omega]
      go_wp2_with (go_at_call 50; refine (C1.out _).mono ?_; rintro e w' ⟨rfl, j2, rfl⟩)
      go_roundw
      case rel => exact ⟨j, _, z, by go_num, rfl, by omega, Lib.hid (by rw [← set_left HJS.out]; exact (HS.out.drewN j2).set j q), HNX, (hbw.drewN j2).setCell _⟩
      case measure => simp [intOf]
end Go.Proofs.YtlabblkonkhmgaaDoor
