/-
  Contracts of Plus and Add of the reference.
-/
import Derived.Test.YtlabblkonkhmgaaDoorWordN
namespace Go.Proofs.YtlabblkonkhmgaaDoor
open Go.RowKit
set_option maxRecDepth 100000 in
set_option maxHeartbeats 1000000 in
theorem plus_any (A C : Option Addr) (n c m d : Nat) (l k : List Nat) (w : World) (hn : l.length = n) (hm : n ≤ 35184372087808) (h : RW w w.heap.size A l)
    (gn : k.length = m) (gm : m ≤ 35184372087808) (g : RW w w.heap.size C k) :
    Calls Tryd.prog 34 #[.slice A n c, .slice C m d] w (SlPost (wds (val l + val k)) w) := by
  obtain ⟨i0, hi, hz0, hz1, hz2⟩ := info_parts infoW
  have C1 := Lib.hid (fun W (hb : Below w.heap.size w W) i => rword_any A n c i l w.heap.size W hn (by omega) (h.below hb))
  have C2 := Lib.hid (fun W (hb : Below w.heap.size w W) i => rword_any C m d i k w.heap.size W gn (by omega) (g.below hb))
  have HL := Lib.hid h.1
  have HK := Lib.hid g.1
  have HN := Lib.hid hn
  have HM := Lib.hid gn
  have hn1 : (n : Int) ≤ 35184372087808 := by omega
  have hm1 : (m : Int) ≤ 35184372087808 := by omega
  clear hn hm h gn gm g
  go_enter Tryd.func34, Tryd.ntmps34
  go_wp2
  go_loopw [5, 6, 7] (fun v cv i wr => ∃ (q : Nat) (S : List Nat) (r : Nat), i = .int .i64 q ∧ cv = .int .u64 (r : Nat) ∧ (q : Int) ≤ 35184372087808 ∧ Hid (OwnW w.heap.size S v wr) ∧ Hid (SumT l k q S r) ∧ Hid (S.length = q) ∧ Hid (q ≤ max n m) ∧ Below w.heap.size w wr) (fun _ _ i _ => max n m - (intOf i).toNat)
  case atStart => exact ⟨0, [], 0, rfl, rfl, by omega, Lib.hid (OwnW.nil _ _), Lib.hid (SumT.start l k [] Ws.nil), Lib.hid rfl, Lib.hid (Nat.zero_le _), Below.refl _ _⟩
  case round =>
    obtain ⟨q, S, r, rfl, rfl, hq, HO, HT, HSL, HQ, hbw⟩ := hrel
    have hsl : S.length = q := HSL.out
    by_cases hend : n ≤ q ∧ m ≤ q
    · obtain ⟨h1, h2⟩ := hend
      obtain ⟨e1, e2⟩ := HT.out.end_ (by rw [HN.out]; exact h1) (by rw [HM.out]; exact h2) hsl
      have hr := HT.out.low
      have k1 : IntKind.u32.wrap (r : Int) = (r : Int) := IntWalk.u32_in _ (by omega)
      have d1 : decide (q < n) = false := by simp; omega
      have d2 : decide (q < m) = false := by simp; omega
      have HE1 := Lib.hid e1
      have HE2 := Lib.hid (show nrm (S ++ [r]) = wds (val l + val k) by rw [nrm_wds e1, e2])
      have HSL2 := Lib.hid (show (S.length + 1) * 4 ≤ 140737488355328 ∧ S.length + 1 ≤ maxLen ∧ S.length + 1 ≤ 35184372088832 by unfold maxLen; omega)
      clear h1 h2 e1 e2 hr hsl
      go_wp2_with (at_builtin; refine wpList_append_own _ rfl _ _ 22 rfl w.heap.size 42 i0 (.int .u32 0) 1 4 Tryd.underlying22 hi hz0 hz1 hz2 rfl (by decide) _ _ _ rfl (World.ownsRow.alloc (w := wr) HO.out _) ⟨wr.heap.size, 0, none⟩ 1 1 [.int .u32 (r : Nat)] rfl rfl ?c1 ?c2 ?c3 ?c4 ?c5 ?_)
      case c1 => exact (cell_one_new _ _ _)
      case c2 => simp [Value.oneCell']
      case c3 => exact HSL2.out.2.1
      case c4 => exact HSL2.out.1
      case c5 => have := hbw.size; simp; omega
      intro v' w2 hown hg _
      have ho := OwnW.snoc hown
      have hbb : Below w.heap.size w w2 := (hbw.alloc hbw.size _).grown hg (by have := hbw.size; simp; omega) (fun j hj => (World.ownsRow.lt HO.out j hj).1)
      obtain ⟨A2, c2, hv, hcc, hr2⟩ := ho.sl HE1.out
      obtain ⟨N2, hN2⟩ : ∃ N2, (S ++ [r]).length = N2 := ⟨_, rfl⟩
      have C3 := Lib.hid (rnorm_any A2 N2 c2 (S ++ [r]) w2.heap.size w2 hN2 (by rw [← hN2]; exact hcc) (by rw [← hN2, List.length_append]; exact HSL2.out.2.2) hr2)
      rw [hN2] at hv
      clear hown hg ho hr2 hcc hN2
      subst hv
      go_wp2_with fail
      refine C3.out.mono ?_
      rintro e w3 ⟨v3, rfl, ho3, hb3⟩
      rw [HE2.out] at ho3
      have HO3 := Lib.hid (ho3.sl (wds_ws _))
      clear ho3 C3
      go_wp2
      go_ret
      exact ⟨_, rfl, HO3.out, below_le hbb hb3⟩
    · have hx := HL.out.getD q
      have hy := HK.out.getD q
      have hr := HT.out.low
      obtain ⟨t, ht⟩ : ∃ t, sumC l k q r = t := ⟨_, rfl⟩
      have htl := sumC_lt (k := q) HL.out HK.out hr
      rw [ht] at htl
      have D1 := Lib.hid (C1.out wr hbw q)
      have D2 := Lib.hid (C2.out wr hbw q)
      have HNX := Lib.hid (show SumT l k (q + 1) (S ++ [t % 4294967296]) (t / 4294967296) by
        rw [← ht]
        refine HT.out.next HL.out HK.out (HT.out.ws.append (Ws.cons (by omega) Ws.nil)) ?_ ?_
        · rw [List.take_append_of_le_length (by omega)]
        · rw [List.getD_eq_getElem?_getD, List.getElem?_append_right (by omega), hsl]; simp)
      obtain ⟨x, hxe⟩ : ∃ x, l.getD q 0 = x := ⟨_, rfl⟩
      obtain ⟨y, hye⟩ : ∃ y, k.getD q 0 = y := ⟨_, rfl⟩
      have hsum : x + y + r = t := by rw [← hxe, ← hye]; exact ht
      rw [hxe] at D1 hx
      rw [hye] at D2 hy
      have k1 : IntKind.u64.wrap ((x : Int) + (y : Int)) = (x : Int) + (y : Int) := IntWalk.u64_in _ (by omega)
      have k2 : IntKind.u64.wrap ((x : Int) + (y : Int) + (r : Int)) = (t : Int) := by rw [IntWalk.u64_in _ (by omega)]; omega
      have hlt : decide (q < n) = true ∨ (decide (q < n) = false ∧ decide (q < m) = true) := by simp; omega
      have HSL2 := Lib.hid (show (S.length + 1) * 4 ≤ 140737488355328 ∧ S.length + 1 ≤ maxLen by unfold maxLen; omega)
      have HSL3 := Lib.hid (show (S ++ [t % 4294967296]).length = q + 1 by rw [List.length_append, hsl]; rfl)
      have HQ2 := Lib.hid (show q + 1 ≤ max n m by omega)
      have hq2 : ((q : Int) + 1) ≤ 35184372087808 := by omega
      clear hx hy hr ht htl hxe hye hsum hsl hend
      rcases hlt with d1 | ⟨d1, d2⟩
      all_goals
        go_wp2_with fail
        refine D1.out.mono ?_
        rintro e w1 ⟨rfl, rfl⟩
        go_wp2_with fail
        refine D2.out.mono ?_
        rintro e w1 ⟨rfl, rfl⟩
        go_wp2_with (at_builtin; refine wpList_append_own _ rfl _ _ 22 rfl w.heap.size 42 i0 (.int .u32 0) 1 4 Tryd.underlying22 hi hz0 hz1 hz2 rfl (by decide) _ _ _ rfl (World.ownsRow.alloc (w := wr) HO.out _) ⟨wr.heap.size, 0, none⟩ 1 1 [.int .u32 ((t % 4294967296 : Nat) : Int)] rfl rfl ?c1 ?c2 ?c3 ?c4 ?c5 ?_)
        case c1 => exact (cell_one_new _ _ _)
        case c2 => simp [Value.oneCell']
        case c3 => exact HSL2.out.2
        case c4 => exact HSL2.out.1
        case c5 => have := hbw.size; simp; omega
        intro v' w2 hown hg _
        have HO2 := Lib.hid (OwnW.snoc hown)
        have hbb : Below w.heap.size w w2 := (hbw.alloc hbw.size _).grown hg (by have := hbw.size; simp; omega) (fun j hj => (World.ownsRow.lt HO.out j hj).1)
        clear hown hg
        go_wp2
        go_roundw
        case rel => exact ⟨q + 1, _, t / 4294967296, by go_num, by go_num, by omega, HO2, HNX, HSL3, HQ2, hbb⟩
        case measure => have := HQ2.out; simp [intOf]; omega
end Go.Proofs.YtlabblkonkhmgaaDoor
