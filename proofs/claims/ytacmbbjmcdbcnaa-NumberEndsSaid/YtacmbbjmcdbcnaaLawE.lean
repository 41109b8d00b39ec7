/-
  The law NumberEnds.
-/
import Derived.Test.YtacmbbjmcdbcnaaMm
namespace Go.Proofs.Ytacmbbjmcdbcnaa
open Go.RowKit
theorem plusInf_any (w : World) : Calls Try.prog 71 #[.int .i64 1] w fun e w' => e = .returned (.float .f64 9218868437227405312) ∧ w = w' := inf1_any w
theorem minusInf_any (w : World) : Calls Try.prog 71 #[.int .i64 (-1)] w fun e w' => e = .returned (.float .f64 18442240474082181120) ∧ w = w' := by
  have h2 : (callFunc 73 #[.int .u64 18442240474082181120]).run Try.prog w = .ok (.value (.float .f64 18442240474082181120)) w := f64from_run 18442240474082181120 w
  go_enter Try.func71, Try.ntmps71
  go_wp2
  go_ret
  exact ⟨by rfl, rfl⟩
theorem take_fold (f : Nat → Nat → Nat) (z : Nat) (l : List Nat) (k x : Nat) (h : l[k]? = some x) : (l.take (k + 1)).foldl f z = f ((l.take k).foldl f z) x := by
  rw [List.take_add_one, h, Option.toList_some, List.foldl_append]
  rfl
theorem take_mem {l : List Nat} {k x u : Nat} (h : l[k]? = some x) : u ∈ l.take (k + 1) ↔ u ∈ l.take k ∨ u = x := by
  rw [List.take_add_one, h, Option.toList_some, List.mem_append, List.mem_singleton]
/-- What stands behind k floats: a NaN, or the one that is told. -/
def EndR (f : Nat → Nat → Nat) (z : Nat) (l : List Nat) (k b : Nat) : Prop := b < 18446744073709551616 ∧ (((∃ u ∈ l.take k, fnan u = true) ∧ fnan b = true) ∨ ((∀ u ∈ l.take k, fnan u = false) ∧ b = (l.take k).foldl f z ∧ fnan b = false))
def endV (f : Nat → Nat → Nat) (z : Nat) (l : List Nat) : Nat := if l.any fnan = true then 9221120237041090560 else l.foldl f z
theorem EndR.fin {f : Nat → Nat → Nat} {z : Nat} {l : List Nat} {b : Nat} (h : EndR f z l l.length b) : cn b = endV f z l := by
  unfold endV
  rw [EndR, List.take_length] at h
  rcases h.2 with ⟨⟨u, hu, h1⟩, h2⟩ | ⟨h1, h2, h3⟩
  · rw [cn_nan h2, if_pos (List.any_eq_true.2 ⟨u, hu, h1⟩)]
  · rw [cn_real h3, if_neg, h2]
    intro e
    obtain ⟨u, hu, h4⟩ := List.any_eq_true.1 e
    rw [h1 u hu] at h4; cases h4
theorem ahead_any (x y : Nat) (w : World) (hx : x < 18446744073709551616) (hy : y < 18446744073709551616) : Calls Try.prog 72 #[.float .f64 x, .float .f64 y] w fun e w' => e = .returned (.bool (aheadV x y)) ∧ w = w' := by
  have C1 := Lib.hid (fun W => signbit_any x W hx)
  have C2 := Lib.hid (fun W => signbit_any y W hy)
  have t1 := olt_run x y
  have t2 := ord_zero x
  have t3 := ord_zero y
  unfold aheadV
  obtain ⟨s, hs⟩ : ∃ s, fneg x = s := ⟨_, rfl⟩
  obtain ⟨t, ht⟩ : ∃ t, fneg y = t := ⟨_, rfl⟩
  rw [hs] at C1 ⊢
  rw [ht] at C2 ⊢
  cases h1 : olt x y
  · rw [h1] at t1
    by_cases h2 : rung x = 0
    · rw [decide_eq_true h2] at t2 ⊢
      by_cases h3 : rung y = 0
      · rw [decide_eq_true h3] at t3 ⊢
        clear hx hy hs ht h1 h2 h3
        cases s
        · go_enter Try.func72, Try.ntmps72
          go_wp2_with fail
          refine (C1.out _).mono ?_
          rintro e w' ⟨rfl, rfl⟩
          go_wp2
          go_ret
          exact ⟨rfl, rfl⟩
        · go_enter Try.func72, Try.ntmps72
          go_wp2_with fail
          refine (C1.out _).mono ?_
          rintro e w' ⟨rfl, rfl⟩
          go_wp2_with fail
          refine (C2.out _).mono ?_
          rintro e w' ⟨rfl, rfl⟩
          go_wp2
          go_ret
          exact ⟨rfl, rfl⟩
      · rw [decide_eq_false h3] at t3 ⊢
        clear hx hy hs ht h1 h2 h3 C1 C2
        go_enter Try.func72, Try.ntmps72
        go_wp2
        go_ret
        exact ⟨rfl, rfl⟩
    · rw [decide_eq_false h2] at t2 ⊢
      clear hx hy hs ht h1 h2 C1 C2 t3
      go_enter Try.func72, Try.ntmps72
      go_wp2
      go_ret
      exact ⟨rfl, rfl⟩
  · rw [h1] at t1
    clear hx hy hs ht h1 C1 C2 t2 t3
    go_enter Try.func72, Try.ntmps72
    go_wp2
    go_ret
    exact ⟨rfl, rfl⟩
set_option maxRecDepth 100000 in
set_option maxHeartbeats 1000000 in
theorem nleast_any (A : Option Addr) (n c : Nat) (l : List Nat) (w : World) (hn : l.length = n) (hm : n ≤ 17592186043904) (h : RF w w.heap.size A l) : Calls Try.prog 46 #[.slice A n c] w fun e w' => e = .returned (.float .f64 (endV mnV 9218868437227405312 l)) ∧ ∃ n, w' = w.drewN n := by
  have C1 := Lib.hid (fun W => plusInf_any W)
  have C2 := Lib.hid (fun b W => told_any b W)
  have HM := Lib.hid hm
  have HN := Lib.hid hn
  have HR := Lib.hid h
  clear hn hm h
  go_enter Try.func46, Try.ntmps46
  go_wp2_with fail
  refine (C1.out _).mono ?_
  rintro e w' ⟨rfl, rfl⟩
  go_wp2_with fail
  go_loopw [3, 9] (fun v3 v9 wr => ∃ (b k : Nat), v3 = .float .f64 b ∧ v9 = .int .i64 (k : Nat) ∧ Hid (k ≤ n) ∧ Hid (EndR mnV 9218868437227405312 l k b) ∧ ∃ m, wr = w.drewN m) (fun _ v9 _ => ((n : Int) - intOf v9).toNat)
  case atStart => exact ⟨9218868437227405312, 0, rfl, rfl, Lib.hid (Nat.zero_le _), Lib.hid ⟨by omega, .inr ⟨fun u hu => by simp at hu, by simp, by decide⟩⟩, 0, rfl⟩
  case round =>
    obtain ⟨b, k, rfl, rfl, HK, HE, m, rfl⟩ := hrel
    by_cases hkn : k < n
    · have hm' := HM.out
      have t1 : decide ((k : Int) < (n : Int)) = true := decide_eq_true (by omega)
      have t2 : (k : Int) < (n : Int) := by omega
      have t3 : (0 : Int) ≤ (k : Int) := by omega
      have k1 : IntKind.i64.wrap ((k : Int) + 1) = ((k + 1 : Nat) : Int) := by rw [IntWalk.i64_in _ (by omega)]; omega
      obtain ⟨x, hx⟩ : ∃ x, l[k]? = some x := ⟨_, List.getElem?_eq_getElem (by have := HN.out; omega)⟩
      obtain ⟨g, off, rfl, _, hcell⟩ := HR.out.2 (by have := HN.out; omega)
      have hc : (w.drewN m).cell? ⟨g, off + k, none⟩ = some (.float .f64 x) := hcell k x hx
      have hx64 := HR.out.1 x (List.mem_of_getElem? hx)
      have HK1 := Lib.hid (show k + 1 ≤ n by omega)
      have HKN := Lib.hid hkn
      have he := HE.out
      by_cases hnn : fnan b = true ∨ fnan x = true
      · obtain ⟨y, hy1, hy2, hy3⟩ := mn_nan b x hnn (w.drewN m)
        have HE1 := Lib.hid (show EndR mnV 9218868437227405312 l (k + 1) y from ⟨hy3, .inl ⟨by
          rcases hnn with hb | hb
          · rcases he.2 with ⟨⟨u, hu, h1⟩, _⟩ | ⟨_, _, h1⟩
            · exact ⟨u, (take_mem hx).2 (.inl hu), h1⟩
            · rw [hb] at h1; cases h1
          · exact ⟨x, (take_mem hx).2 (.inr rfl), hb⟩, hy2⟩⟩)
        have hrun := hy1 #[22, 22] 22
        rw [World.drewN_drewN] at hrun
        clear hcell hx hx64 he hnn hy1 hy2 hy3 hkn hm'
        go_wp2
        go_roundw
        case rel => exact ⟨y, k + 1, rfl, by go_num, HK1, HE1, m + 1, rfl⟩
        case measure => have := HKN.out; simp [intOf]; omega
      · have nb : fnan b = false := Bool.eq_false_iff.2 (fun e => hnn (.inl e))
        have nx : fnan x = false := Bool.eq_false_iff.2 (fun e => hnn (.inr e))
        have hrun := mn_run b x he.1 hx64 nb nx #[22, 22] 22 (w.drewN m)
        have HE1 := Lib.hid (show EndR mnV 9218868437227405312 l (k + 1) (mnV b x) from ⟨mnV_lt he.1 hx64, .inr ⟨by
          rcases he.2 with ⟨_, h1⟩ | ⟨h1, _, _⟩
          · rw [nb] at h1; cases h1
          · intro u hu
            rcases (take_mem hx).1 hu with h2 | h2
            · exact h1 u h2
            · rw [h2]; exact nx, by
          rcases he.2 with ⟨_, h1⟩ | ⟨_, h1, _⟩
          · rw [nb] at h1; cases h1
          · rw [take_fold _ _ _ _ _ hx, ← h1], mnV_real nb nx⟩⟩)
        obtain ⟨y, hy⟩ : ∃ y, mnV b x = y := ⟨_, rfl⟩
        rw [hy] at hrun HE1
        clear hcell hx hx64 he hnn nb nx hkn hm' hy
        go_wp2
        go_roundw
        case rel => exact ⟨y, k + 1, rfl, by go_num, HK1, HE1, m, rfl⟩
        case measure => have := HKN.out; simp [intOf]; omega
    · have t1 : decide ((k : Int) < (n : Int)) = false := decide_eq_false (by omega)
      have t2 : ¬ ((k : Int) < (n : Int)) := by omega
      have HF := Lib.hid (show cn b = endV mnV 9218868437227405312 l from EndR.fin (by
        have h1 := HE.out
        have h2 : k = l.length := by have := HK.out; have := HN.out; omega
        rw [← h2]; exact h1))
      clear hkn
      go_wp2_with fail
      refine (C2.out _ _).mono ?_
      rintro e w' ⟨rfl, rfl⟩
      go_wp2
      go_ret
      exact ⟨congrArg (fun z => Ending.returned (.float .f64 z)) HF.out, m, rfl⟩
set_option maxRecDepth 100000 in
set_option maxHeartbeats 1000000 in
theorem nmost_any (A : Option Addr) (n c : Nat) (l : List Nat) (w : World) (hn : l.length = n) (hm : n ≤ 17592186043904) (h : RF w w.heap.size A l) : Calls Try.prog 49 #[.slice A n c] w fun e w' => e = .returned (.float .f64 (endV mxV 18442240474082181120 l)) ∧ ∃ n, w' = w.drewN n := by
  have C1 := Lib.hid (fun W => minusInf_any W)
  have C2 := Lib.hid (fun b W => told_any b W)
  have HM := Lib.hid hm
  have HN := Lib.hid hn
  have HR := Lib.hid h
  clear hn hm h
  go_enter Try.func49, Try.ntmps49
  go_wp2_with fail
  refine (C1.out _).mono ?_
  rintro e w' ⟨rfl, rfl⟩
  go_wp2_with fail
  go_loopw [3, 9] (fun v3 v9 wr => ∃ (b k : Nat), v3 = .float .f64 b ∧ v9 = .int .i64 (k : Nat) ∧ Hid (k ≤ n) ∧ Hid (EndR mxV 18442240474082181120 l k b) ∧ ∃ m, wr = w.drewN m) (fun _ v9 _ => ((n : Int) - intOf v9).toNat)
  case atStart => exact ⟨18442240474082181120, 0, rfl, rfl, Lib.hid (Nat.zero_le _), Lib.hid ⟨by omega, .inr ⟨fun u hu => by simp at hu, by simp, by decide⟩⟩, 0, rfl⟩
  case round =>
    obtain ⟨b, k, rfl, rfl, HK, HE, m, rfl⟩ := hrel
    by_cases hkn : k < n
    · have hm' := HM.out
      have t1 : decide ((k : Int) < (n : Int)) = true := decide_eq_true (by omega)
      have t2 : (k : Int) < (n : Int) := by omega
      have t3 : (0 : Int) ≤ (k : Int) := by omega
      have k1 : IntKind.i64.wrap ((k : Int) + 1) = ((k + 1 : Nat) : Int) := by rw [IntWalk.i64_in _ (by omega)]; omega
      obtain ⟨x, hx⟩ : ∃ x, l[k]? = some x := ⟨_, List.getElem?_eq_getElem (by have := HN.out; omega)⟩
      obtain ⟨g, off, rfl, _, hcell⟩ := HR.out.2 (by have := HN.out; omega)
      have hc : (w.drewN m).cell? ⟨g, off + k, none⟩ = some (.float .f64 x) := hcell k x hx
      have hx64 := HR.out.1 x (List.mem_of_getElem? hx)
      have HK1 := Lib.hid (show k + 1 ≤ n by omega)
      have HKN := Lib.hid hkn
      have he := HE.out
      by_cases hnn : fnan b = true ∨ fnan x = true
      · obtain ⟨y, hy1, hy2, hy3⟩ := mx_nan b x hnn (w.drewN m)
        have HE1 := Lib.hid (show EndR mxV 18442240474082181120 l (k + 1) y from ⟨hy3, .inl ⟨by
          rcases hnn with hb | hb
          · rcases he.2 with ⟨⟨u, hu, h1⟩, _⟩ | ⟨_, _, h1⟩
            · exact ⟨u, (take_mem hx).2 (.inl hu), h1⟩
            · rw [hb] at h1; cases h1
          · exact ⟨x, (take_mem hx).2 (.inr rfl), hb⟩, hy2⟩⟩)
        have hrun := hy1 #[22, 22] 22
        rw [World.drewN_drewN] at hrun
        clear hcell hx hx64 he hnn hy1 hy2 hy3 hkn hm'
        go_wp2
        go_roundw
        case rel => exact ⟨y, k + 1, rfl, by go_num, HK1, HE1, m + 1, rfl⟩
        case measure => have := HKN.out; simp [intOf]; omega
      · have nb : fnan b = false := Bool.eq_false_iff.2 (fun e => hnn (.inl e))
        have nx : fnan x = false := Bool.eq_false_iff.2 (fun e => hnn (.inr e))
        have hrun := mx_run b x he.1 hx64 nb nx #[22, 22] 22 (w.drewN m)
        have HE1 := Lib.hid (show EndR mxV 18442240474082181120 l (k + 1) (mxV b x) from ⟨mxV_lt he.1 hx64, .inr ⟨by
          rcases he.2 with ⟨_, h1⟩ | ⟨h1, _, _⟩
          · rw [nb] at h1; cases h1
          · intro u hu
            rcases (take_mem hx).1 hu with h2 | h2
            · exact h1 u h2
            · rw [h2]; exact nx, by
          rcases he.2 with ⟨_, h1⟩ | ⟨_, h1, _⟩
          · rw [nb] at h1; cases h1
          · rw [take_fold _ _ _ _ _ hx, ← h1], mxV_real nb nx⟩⟩)
        obtain ⟨y, hy⟩ : ∃ y, mxV b x = y := ⟨_, rfl⟩
        rw [hy] at hrun HE1
        clear hcell hx hx64 he hnn nb nx hkn hm' hy
        go_wp2
        go_roundw
        case rel => exact ⟨y, k + 1, rfl, by go_num, HK1, HE1, m, rfl⟩
        case measure => have := HKN.out; simp [intOf]; omega
    · have t1 : decide ((k : Int) < (n : Int)) = false := decide_eq_false (by omega)
      have t2 : ¬ ((k : Int) < (n : Int)) := by omega
      have HF := Lib.hid (show cn b = endV mxV 18442240474082181120 l from EndR.fin (by
        have h1 := HE.out
        have h2 : k = l.length := by have := HK.out; have := HN.out; omega
        rw [← h2]; exact h1))
      clear hkn
      go_wp2_with fail
      refine (C2.out _ _).mono ?_
      rintro e w' ⟨rfl, rfl⟩
      go_wp2
      go_ret
      exact ⟨congrArg (fun z => Ending.returned (.float .f64 z)) HF.out, m, rfl⟩
set_option maxRecDepth 100000 in
set_option maxHeartbeats 1000000 in
theorem qleast_any (A : Option Addr) (n c : Nat) (l : List Nat) (w : World) (hn : l.length = n) (hm : n ≤ 17592186043904) (h : RF w w.heap.size A l) : Calls Try.prog 48 #[.slice A n c] w fun e w' => e = .returned (.float .f64 (endV mnV 9218868437227405312 l)) ∧ w = w' := by
  have C1 := Lib.hid (fun W => plusInf_any W)
  have C2 := Lib.hid (fun b W => plain_any b W)
  have C3 := Lib.hid (fun b W => isNaN_any b W)
  have HM := Lib.hid hm
  have HN := Lib.hid hn
  have HR := Lib.hid h
  clear hn hm h
  go_enter Try.func48, Try.ntmps48
  go_wp2_with fail
  refine (C1.out _).mono ?_
  rintro e w' ⟨rfl, rfl⟩
  go_wp2_with fail
  go_loopw [3, 4] (fun v3 v9 wr => ∃ (b k : Nat), v3 = .float .f64 b ∧ v9 = .int .i64 (k : Nat) ∧ Hid (k ≤ n) ∧ Hid (b < 18446744073709551616 ∧ (∀ u ∈ l.take k, fnan u = false) ∧ b = (l.take k).foldl mnV 9218868437227405312 ∧ fnan b = false) ∧ w = wr) (fun _ v9 _ => ((n : Int) - intOf v9).toNat)
  case atStart => exact ⟨9218868437227405312, 0, rfl, rfl, Lib.hid (Nat.zero_le _), Lib.hid ⟨by omega, fun u hu => by simp at hu, by simp, by decide⟩, rfl⟩
  case round =>
    obtain ⟨b, k, rfl, rfl, HK, HE, rfl⟩ := hrel
    by_cases hkn : k < n
    · have hm' := HM.out
      have t1 : decide ((k : Int) < (n : Int)) = true := decide_eq_true (by omega)
      have t2 : (k : Int) < (n : Int) := by omega
      have t3 : (0 : Int) ≤ (k : Int) := by omega
      have k1 : IntKind.i64.wrap ((k : Int) + 1) = ((k + 1 : Nat) : Int) := by rw [IntWalk.i64_in _ (by omega)]; omega
      obtain ⟨x, hx⟩ : ∃ x, l[k]? = some x := ⟨_, List.getElem?_eq_getElem (by have := HN.out; omega)⟩
      obtain ⟨g, off, rfl, _, hcell⟩ := HR.out.2 (by have := HN.out; omega)
      have hc : w.cell? ⟨g, off + k, none⟩ = some (.float .f64 x) := hcell k x hx
      have hx64 := HR.out.1 x (List.mem_of_getElem? hx)
      have HK1 := Lib.hid (show k + 1 ≤ n by omega)
      have HKN := Lib.hid hkn
      have he := HE.out
      have C4 := Lib.hid (C3.out x w)
      cases nx : fnan x
      · rw [nx] at C4
        have C5 := Lib.hid (ahead_any x b w hx64 he.1)
        have HE1 := Lib.hid (show mnV b x < 18446744073709551616 ∧ (∀ u ∈ l.take (k + 1), fnan u = false) ∧ mnV b x = (l.take (k + 1)).foldl mnV 9218868437227405312 ∧ fnan (mnV b x) = false from ⟨mnV_lt he.1 hx64, fun u hu => by
          rcases (take_mem hx).1 hu with h2 | h2
          · exact he.2.1 u h2
          · rw [h2]; exact nx, by rw [take_fold _ _ _ _ _ hx, ← he.2.2.1], mnV_real he.2.2.2 nx⟩)
        cases ha : aheadV x b
        · rw [ha] at C5
          rw [show mnV b x = b from by unfold mnV; rw [if_neg (by rw [ha]; simp)]] at HE1
          clear hcell hx hx64 he nx hkn hm' ha
          go_wp2_with fail
          refine C4.out.mono ?_
          rintro e w' ⟨rfl, rfl⟩
          go_wp2_with fail
          refine C5.out.mono ?_
          rintro e w' ⟨rfl, rfl⟩
          go_wp2
          go_roundw
          case rel => exact ⟨b, k + 1, rfl, by go_num, HK1, HE1, trivial⟩
          case measure => have := HKN.out; simp [intOf]; omega
        · rw [ha] at C5
          rw [show mnV b x = x from by unfold mnV; rw [if_pos ha]] at HE1
          clear hcell hx hx64 he nx hkn hm' ha
          go_wp2_with fail
          refine C4.out.mono ?_
          rintro e w' ⟨rfl, rfl⟩
          go_wp2_with fail
          refine C5.out.mono ?_
          rintro e w' ⟨rfl, rfl⟩
          go_wp2
          go_roundw
          case rel => exact ⟨x, k + 1, rfl, by go_num, HK1, HE1, trivial⟩
          case measure => have := HKN.out; simp [intOf]; omega
      · rw [nx] at C4
        have C5 := Lib.hid (C2.out x w)
        have HF := Lib.hid (show cn x = endV mnV 9218868437227405312 l from by
          unfold endV
          rw [cn_nan nx, if_pos (List.any_eq_true.2 ⟨x, List.mem_of_getElem? hx, nx⟩)])
        clear hcell hx hx64 he nx hkn hm'
        go_wp2_with fail
        refine C4.out.mono ?_
        rintro e w' ⟨rfl, rfl⟩
        go_wp2_with fail
        refine C5.out.mono ?_
        rintro e w' ⟨rfl, rfl⟩
        go_wp2
        go_ret
        exact ⟨congrArg (fun z => Ending.returned (.float .f64 z)) HF.out, rfl⟩
    · have t1 : decide ((k : Int) < (n : Int)) = false := decide_eq_false (by omega)
      have t2 : ¬ ((k : Int) < (n : Int)) := by omega
      have HF := Lib.hid (show b = endV mnV 9218868437227405312 l from by
        have h1 := HE.out
        have h2 : k = l.length := by have := HK.out; have := HN.out; omega
        rw [h2, List.take_length] at h1
        unfold endV
        rw [if_neg, h1.2.2.1]
        intro e
        obtain ⟨u, hu, h4⟩ := List.any_eq_true.1 e
        rw [h1.2.1 u hu] at h4; cases h4)
      clear hkn
      go_wp2
      go_ret
      exact ⟨congrArg (fun z => Ending.returned (.float .f64 z)) HF.out, rfl⟩
set_option maxRecDepth 100000 in
set_option maxHeartbeats 1000000 in
theorem qmost_any (A : Option Addr) (n c : Nat) (l : List Nat) (w : World) (hn : l.length = n) (hm : n ≤ 17592186043904) (h : RF w w.heap.size A l) : Calls Try.prog 50 #[.slice A n c] w fun e w' => e = .returned (.float .f64 (endV mxV 18442240474082181120 l)) ∧ w = w' := by
  have C1 := Lib.hid (fun W => minusInf_any W)
  have C2 := Lib.hid (fun b W => plain_any b W)
  have C3 := Lib.hid (fun b W => isNaN_any b W)
  have HM := Lib.hid hm
  have HN := Lib.hid hn
  have HR := Lib.hid h
  clear hn hm h
  go_enter Try.func50, Try.ntmps50
  go_wp2_with fail
  refine (C1.out _).mono ?_
  rintro e w' ⟨rfl, rfl⟩
  go_wp2_with fail
  go_loopw [3, 4] (fun v3 v9 wr => ∃ (b k : Nat), v3 = .float .f64 b ∧ v9 = .int .i64 (k : Nat) ∧ Hid (k ≤ n) ∧ Hid (b < 18446744073709551616 ∧ (∀ u ∈ l.take k, fnan u = false) ∧ b = (l.take k).foldl mxV 18442240474082181120 ∧ fnan b = false) ∧ w = wr) (fun _ v9 _ => ((n : Int) - intOf v9).toNat)
  case atStart => exact ⟨18442240474082181120, 0, rfl, rfl, Lib.hid (Nat.zero_le _), Lib.hid ⟨by omega, fun u hu => by simp at hu, by simp, by decide⟩, rfl⟩
  case round =>
    obtain ⟨b, k, rfl, rfl, HK, HE, rfl⟩ := hrel
    by_cases hkn : k < n
    · have hm' := HM.out
      have t1 : decide ((k : Int) < (n : Int)) = true := decide_eq_true (by omega)
      have t2 : (k : Int) < (n : Int) := by omega
      have t3 : (0 : Int) ≤ (k : Int) := by omega
      have k1 : IntKind.i64.wrap ((k : Int) + 1) = ((k + 1 : Nat) : Int) := by rw [IntWalk.i64_in _ (by omega)]; omega
      obtain ⟨x, hx⟩ : ∃ x, l[k]? = some x := ⟨_, List.getElem?_eq_getElem (by have := HN.out; omega)⟩
      obtain ⟨g, off, rfl, _, hcell⟩ := HR.out.2 (by have := HN.out; omega)
      have hc : w.cell? ⟨g, off + k, none⟩ = some (.float .f64 x) := hcell k x hx
      have hx64 := HR.out.1 x (List.mem_of_getElem? hx)
      have HK1 := Lib.hid (show k + 1 ≤ n by omega)
      have HKN := Lib.hid hkn
      have he := HE.out
      have C4 := Lib.hid (C3.out x w)
      cases nx : fnan x
      · rw [nx] at C4
        have C5 := Lib.hid (ahead_any b x w he.1 hx64)
        have HE1 := Lib.hid (show mxV b x < 18446744073709551616 ∧ (∀ u ∈ l.take (k + 1), fnan u = false) ∧ mxV b x = (l.take (k + 1)).foldl mxV 18442240474082181120 ∧ fnan (mxV b x) = false from ⟨mxV_lt he.1 hx64, fun u hu => by
          rcases (take_mem hx).1 hu with h2 | h2
          · exact he.2.1 u h2
          · rw [h2]; exact nx, by rw [take_fold _ _ _ _ _ hx, ← he.2.2.1], mxV_real he.2.2.2 nx⟩)
        cases ha : aheadV b x
        · rw [ha] at C5
          rw [show mxV b x = b from by unfold mxV; rw [if_neg (by rw [ha]; simp)]] at HE1
          clear hcell hx hx64 he nx hkn hm' ha
          go_wp2_with fail
          refine C4.out.mono ?_
          rintro e w' ⟨rfl, rfl⟩
          go_wp2_with fail
          refine C5.out.mono ?_
          rintro e w' ⟨rfl, rfl⟩
          go_wp2
          go_roundw
          case rel => exact ⟨b, k + 1, rfl, by go_num, HK1, HE1, trivial⟩
          case measure => have := HKN.out; simp [intOf]; omega
        · rw [ha] at C5
          rw [show mxV b x = x from by unfold mxV; rw [if_pos ha]] at HE1
          clear hcell hx hx64 he nx hkn hm' ha
          go_wp2_with fail
          refine C4.out.mono ?_
          rintro e w' ⟨rfl, rfl⟩
          go_wp2_with fail
          refine C5.out.mono ?_
          rintro e w' ⟨rfl, rfl⟩
          go_wp2
          go_roundw
          case rel => exact ⟨x, k + 1, rfl, by go_num, HK1, HE1, trivial⟩
          case measure => have := HKN.out; simp [intOf]; omega
      · rw [nx] at C4
        have C5 := Lib.hid (C2.out x w)
        have HF := Lib.hid (show cn x = endV mxV 18442240474082181120 l from by
          unfold endV
          rw [cn_nan nx, if_pos (List.any_eq_true.2 ⟨x, List.mem_of_getElem? hx, nx⟩)])
        clear hcell hx hx64 he nx hkn hm'
        go_wp2_with fail
        refine C4.out.mono ?_
        rintro e w' ⟨rfl, rfl⟩
        go_wp2_with fail
        refine C5.out.mono ?_
        rintro e w' ⟨rfl, rfl⟩
        go_wp2
        go_ret
        exact ⟨congrArg (fun z => Ending.returned (.float .f64 z)) HF.out, rfl⟩
    · have t1 : decide ((k : Int) < (n : Int)) = false := decide_eq_false (by omega)
      have t2 : ¬ ((k : Int) < (n : Int)) := by omega
      have HF := Lib.hid (show b = endV mxV 18442240474082181120 l from by
        have h1 := HE.out
        have h2 : k = l.length := by have := HK.out; have := HN.out; omega
        rw [h2, List.take_length] at h1
        unfold endV
        rw [if_neg, h1.2.2.1]
        intro e
        obtain ⟨u, hu, h4⟩ := List.any_eq_true.1 e
        rw [h1.2.1 u hu] at h4; cases h4)
      clear hkn
      go_wp2
      go_ret
      exact ⟨congrArg (fun z => Ending.returned (.float .f64 z)) HF.out, rfl⟩
set_option maxRecDepth 100000 in
set_option maxHeartbeats 1000000 in
theorem ends_any (A : Option Addr) (n c : Nat) (l : List Nat) (w : World) (hn : l.length = n) (hm : n ≤ 17592186043904) (h : RF w w.heap.size A l) : Calls Try.prog 8 #[.slice A n c] w fun e w' => e = .returned (.bool true) ∧ Below w.heap.size w w' := by
  have own : ∀ W, Below w.heap.size w W → Calls Try.prog 47 #[.slice A n c] W fun e w' => ∃ A2 c2, e = .returned (.slice A2 n c2) ∧ RF w' w'.heap.size A2 l ∧ Below W.heap.size W w' := fun W hb =>
    (ownF_any A n c l W hn hm (h.step hb)).mono fun e w' ⟨v, he, ho, hbw⟩ => by
      obtain ⟨A2, c2, rfl, _, hr⟩ := ho.rf h.1
      rw [hn] at he
      exact ⟨A2, c2, he, hr, hbw⟩
  have K1 := Lib.hid own
  have K2 := Lib.hid (fun W A2 c2 (r : RF W W.heap.size A2 l) => nleast_any A2 n c2 l W hn hm r)
  have K3 := Lib.hid (fun W (hb : Below w.heap.size w W) => qleast_any A n c l W hn hm (h.step hb))
  have K4 := Lib.hid (fun W A2 c2 (r : RF W W.heap.size A2 l) => nmost_any A2 n c2 l W hn hm r)
  have K5 := Lib.hid (fun W (hb : Below w.heap.size w W) => qmost_any A n c l W hn hm (h.step hb))
  have CS := Lib.hid (fun a W => same_any a W)
  have CA := Lib.hid (fun W => awake_any W)
  obtain ⟨a, ha⟩ : ∃ a, endV mnV 9218868437227405312 l = a := ⟨_, rfl⟩
  obtain ⟨b, hb⟩ : ∃ b, endV mxV 18442240474082181120 l = b := ⟨_, rfl⟩
  rw [ha] at K2 K3
  rw [hb] at K4 K5
  clear hn hm h own ha hb
  go_enter Try.func8, Try.ntmps8
  go_wp2_with fail
  refine (K1.out _ (Below.refl _ _)).mono ?_
  rintro e w1 ⟨A1, c1, rfl, r1, b1⟩
  go_wp2_with fail
  refine (K2.out _ _ _ r1).mono ?_
  rintro e w2 ⟨rfl, n2⟩
  have B2 := below_le b1 (drew_below' n2)
  clear r1 b1 n2
  go_wp2_with fail
  refine (K3.out _ B2).mono ?_
  rintro e w' ⟨rfl, rfl⟩
  go_wp2_with fail
  refine (CS.out _ _).mono ?_
  rintro e w' ⟨rfl, rfl⟩
  go_wp2_with fail
  refine (K1.out _ B2).mono ?_
  rintro e w3 ⟨A3, c3, rfl, r3, b3⟩
  have B3 := below_le B2 b3
  go_wp2_with fail
  refine (K4.out _ _ _ r3).mono ?_
  rintro e w4 ⟨rfl, n4⟩
  have B4 := below_le B3 (drew_below' n4)
  clear r3 b3 n4
  go_wp2_with fail
  refine (K5.out _ B4).mono ?_
  rintro e w' ⟨rfl, rfl⟩
  go_wp2_with fail
  refine (CS.out _ _).mono ?_
  rintro e w' ⟨rfl, rfl⟩
  go_wp2_with fail
  refine (CA.out _).mono ?_
  rintro e w5 ⟨rfl, b5⟩
  have B5 := below_le B4 b5
  go_wp2
  go_ret
  exact ⟨rfl, B5⟩
end Go.Proofs.Ytacmbbjmcdbcnaa
