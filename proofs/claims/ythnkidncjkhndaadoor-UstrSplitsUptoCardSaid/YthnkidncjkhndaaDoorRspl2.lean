/-
  Contracts of Split of both at every separator, and of the law's comparison of texts (texts of at most 2^20 bytes).
-/
import Derived.Test.YthnkidncjkhndaaDoorRspl
namespace Go.Proofs.YthnkidncjkhndaaDoor
open Go.RowKit
theorem row_RS {w : World} {b n : Nat} {f : Nat → ByteArray} {L : List ByteArray} (h : w.rowIs b 9 n (fun j => .string (f j))) (hn : L.length = n) (hL : ∀ (k : Nat) (x : ByteArray), L[k]? = some x → f k = x) : RS w w.heap.size (some ⟨b, 0, none⟩) L := fun _ => by
  refine ⟨b, 0, rfl, World.rowIs.lt h, fun k x hx => ?_⟩
  have hk : k < n := by
    rw [← hn]
    rcases Nat.lt_or_ge k L.length with h1 | h1
    · exact h1
    · rw [List.getElem?_eq_none h1] at hx; cases hx
  rw [Nat.zero_add, h.cell hk, hL k x hx]
set_option maxRecDepth 100000 in
set_option maxHeartbeats 2000000 in
theorem splitAll_any (s t : ByteArray) (w : World) (hs : s.size ≤ 1048576) (ht : t.size ≤ 1048576) : Calls Tryd.prog 55 #[.string s, .string t] w (SpPost s t w) := by
  rcases Nat.eq_zero_or_pos (ln t) with h0 | h0
  · have c1 := fun W => len_any t W (by unfold maxLen; omega)
    have c2 := fun W => single_any s W hs
    have HP := Lib.hid (show spOK s t ((us s).map fun u => [u]) from .inl ⟨h0, rfl⟩)
    rw [h0] at c1
    clear hs ht h0
    go_enter Tryd.func55, Tryd.ntmps55
    go_wp2_with fail
    refine (c1 _).mono ?_
    rintro e w' ⟨rfl, rfl⟩
    go_wp2_with fail
    refine (c2 _).mono ?_
    rintro e w1 ⟨rfl, hr, hb⟩
    have HR := Lib.hid hr
    clear hr
    go_wp2
    go_ret
    refine ⟨_, _, _, _, rfl, ⟨HP.out, by rw [List.length_map, us_length], row_RS (f := fun j => tx [un s j]) HR.out (by rw [List.length_map, List.length_map, us_length]) ?_⟩, hb⟩
    intro k x hx
    rw [List.getElem?_map, List.getElem?_map] at hx
    unfold un
    rw [List.getD_eq_getElem?_getD]
    cases e : (us s)[k]? with
    | none => rw [e] at hx; cases hx
    | some u => rw [e] at hx; simpa using hx
  · refine (split_any s t w hs ht h0).mono ?_
    rintro e w' ⟨v, ps, rfl, hS, hO, hb⟩
    exact sp_of (.inr ⟨h0, hS⟩) hO hb
set_option maxRecDepth 100000 in
set_option maxHeartbeats 2000000 in
theorem rsplit_any (s t : ByteArray) (w : World) (hs : s.size ≤ 1048576) (ht : t.size ≤ 1048576) : Calls Tryd.prog 56 #[.string s, .string t] w (SpPost s t w) := by
  obtain ⟨i0, hi, hz0, hz1, hz2⟩ := info_parts info9
  have hl := ln_le s
  have hl2 := ln_le t
  have hm : ((ln s : Nat) : Int) ≤ 524288 := by omega
  have hm2 : ((ln t : Nat) : Int) ≤ 524288 := by omega
  have S63 := Lib.hid (show s.size ≤ maxLen by unfold maxLen; omega)
  have T63 := Lib.hid (show t.size ≤ maxLen by unfold maxLen; omega)
  have c1 := fun W => rlen_any s W S63.out
  have c2 := fun W => rlen_any t W T63.out
  rcases Nat.eq_zero_or_pos (ln t) with h0 | h0
  · have HP := Lib.hid (show spOK s t ((us s).map fun u => [u]) from .inl ⟨h0, rfl⟩)
    rw [h0] at c2
    clear hs ht hl hl2 hm2 h0
    go_enter Tryd.func56, Tryd.ntmps56
    go_wp2_with fail
    refine (c2 _).mono ?_
    rintro e w' ⟨rfl, rfl⟩
    go_wp2
    go_loopw [5, 6] (fun v i wr => ∃ k : Nat, i = .int .i64 k ∧ k ≤ ln s ∧ Hid (OwnS w.heap.size ((oneT s k).map tx) v wr) ∧ Below w.heap.size w wr) (fun _ i _ => ln s - (intOf i).toNat)
    case atStart => exact ⟨0, rfl, Nat.zero_le _, Lib.hid (OwnS.nil _ _), Below.refl _ _⟩
    case round =>
      obtain ⟨k, rfl, hk, HI, hbw⟩ := hrel
      by_cases hlt : k < ln s
      · have c3 := fun W => rslOne_any s k W S63.out hlt
        have HG := Lib.hid (oneT_succ s k hlt)
        have hol := oneT_len s k
        have HLEN := Lib.hid (show ((oneT s k).length + 1) * 16 ≤ 140737488355328 ∧ (oneT s k).length + 1 ≤ maxLen by unfold maxLen; omega)
        have hk1 : (k : Int) < (ln s : Nat) := by omega
        clear hol
        go_wp2_with (first | (go_at_call 29; refine (c1 _).mono ?_; rintro e w' ⟨rfl, rfl⟩) | (go_at_call 31; refine (c3 _).mono ?_; rintro e w' ⟨rfl, rfl⟩) | (at_builtin; refine wpList_append_own _ rfl _ _ 45 rfl w.heap.size 9 i0 (.string ⟨#[]⟩) 1 16 Tryd.underlying45 hi hz0 hz1 hz2 rfl (by decide) _ _ _ rfl (World.ownsRow.alloc (w := wr) HI.out _) ⟨wr.heap.size, 0, none⟩ 1 1 [.string (tx [un s k])] rfl rfl ?c1 ?c2 ?c3 ?c4 ?c5 ?_))
        case c1 => exact (cell_one_new _ _ _)
        case c2 => simp [Value.oneCell']
        case c3 => have := HLEN.out.2; simp; omega
        case c4 => have := HLEN.out.1; simp; omega
        case c5 => have := hbw.size; simp; omega
        intro v' w2 hown hg _
        have HO := Lib.hid (OwnS.snocP hown)
        have hbb : Below w.heap.size w w2 := (hbw.alloc hbw.size _).grown hg (by have := hbw.size; simp; omega) (fun j hj => (World.ownsRow.lt HI.out j hj).1)
        clear hown hg
        go_wp2
        go_roundw
        case rel => exact ⟨k + 1, by go_num, by omega, Lib.hid (by rw [HG.out]; exact HO.out), hbb⟩
        case measure => simp [intOf]; omega
      · have hk1 : ¬ ((k : Int) < (ln s : Nat)) := by omega
        have HZ := Lib.hid (show oneT s k = (us s).map fun u => [u] by rw [show k = ln s by omega]; exact oneT_all s)
        go_wp2_with (go_at_call 29; refine (c1 _).mono ?_; rintro e w' ⟨rfl, rfl⟩)
        go_ret
        exact sp_of HP.out (by rw [← HZ.out]; exact HI.out) hbw
  · have hp' : ¬ ((ln t : Nat) : Int) = 0 := by omega
    have C3 := Lib.hid (fun W fr => rindex_any s t fr W (by omega) (by omega))
    have HSL := Lib.hid (us_length s)
    have HTL := Lib.hid (us_length t)
    have HP := Lib.hid h0
    clear hs ht hl hl2 h0
    go_enter Tryd.func56, Tryd.ntmps56
    go_wp2_with (first | (go_at_call 29; refine (c2 _).mono ?_; rintro e w' ⟨rfl, rfl⟩) | fail)
    refine (C3.out _ _).mono ?_
    rintro e w' ⟨r0, rfl, hF0, n0, rfl⟩
    have HF0 := Lib.hid hF0
    clear hF0
    go_wp2
    go_loopw [5, 7, 8] (fun v f i wr => ∃ (done : List (List Nat)) (fr : Nat) (r : Int), f = .int .i64 fr ∧ i = .int .i64 r ∧ Hid (FindIs (us s) (us t) fr r) ∧ fr ≤ ln s ∧ done.length ≤ fr ∧ Hid (OwnS w.heap.size (done.map tx) v wr) ∧ Hid (∀ ps, Spl (us s) (us t) fr ps → Spl (us s) (us t) 0 (done ++ ps)) ∧ Below w.heap.size w wr) (fun _ f _ _ => ln s - (intOf f).toNat)
    case atStart => exact ⟨[], 0, r0, rfl, rfl, Lib.hid HF0.out, Nat.zero_le _, Nat.le_refl _, Lib.hid (OwnS.nil _ _), Lib.hid (fun ps h => h), below_drewN' (Below.refl _ _) n0⟩
    case round =>
      obtain ⟨done, fr, r, rfl, rfl, HF, hfr, hdl, HI, HK, hbw⟩ := hrel
      have HLEN := Lib.hid (show (done.length + 1) * 16 ≤ 140737488355328 ∧ done.length + 1 ≤ maxLen by unfold maxLen; omega)
      by_cases hr : r = -1
      · subst hr
        have HS := Lib.hid (HK.out _ (Spl.last fr HF.out))
        have c5 := fun W => rslEnd_any s fr W S63.out hfr
        go_wp2_with (first | (go_at_call 29; refine (c1 _).mono ?_; rintro e w' ⟨rfl, rfl⟩) | (go_at_call 31; refine (c5 _).mono ?_; rintro e w' ⟨rfl, rfl⟩) | (at_builtin; refine wpList_append_own _ rfl _ _ 45 rfl w.heap.size 9 i0 (.string ⟨#[]⟩) 1 16 Tryd.underlying45 hi hz0 hz1 hz2 rfl (by decide) _ _ _ rfl (World.ownsRow.alloc (w := wr) HI.out _) ⟨wr.heap.size, 0, none⟩ 1 1 [.string (tx ((us s).drop fr))] rfl rfl ?c1 ?c2 ?c3 ?c4 ?c5 ?_))
        case c1 => exact (cell_one_new _ _ _)
        case c2 => simp [Value.oneCell']
        case c3 => have := HLEN.out.2; simp; omega
        case c4 => have := HLEN.out.1; simp; omega
        case c5 => have := hbw.size; simp; omega
        intro v' w2 hown hg _
        have HO := Lib.hid (OwnS.snocP hown)
        have hbb : Below w.heap.size w w2 := (hbw.alloc hbw.size _).grown hg (by have := hbw.size; simp; omega) (fun j hj => (World.ownsRow.lt HI.out j hj).1)
        clear hown hg
        go_wp2
        go_ret
        exact sp_of (.inr ⟨HP.out, HS.out⟩) HO.out hbb
      · obtain ⟨j, rfl, hj1, hj2, hj3⟩ : ∃ j : Nat, r = j ∧ fr ≤ j ∧ St (us s) (us t) j ∧ FindIs (us s) (us t) fr (j : Int) := by
          rcases HF.out with ⟨h, _⟩ | ⟨j, h, h1, h2, h3⟩
          · exact absurd h hr
          · exact ⟨j, h, h1, h2, .inr ⟨j, rfl, h1, h2, h3⟩⟩
        have hj4 : j + ln t ≤ ln s := by have := hj2.1; rw [HSL.out, HTL.out] at this; exact this
        have HS := Lib.hid (show ∀ ps, Spl (us s) (us t) (j + ln t) ps → Spl (us s) (us t) 0 ((done ++ [((us s).drop fr).take (j - fr)]) ++ ps) from fun ps h => by
          rw [List.append_assoc]
          exact HK.out _ (Spl.more fr j ps hj3 (by rw [HTL.out]; exact h)))
        have c5 := fun W => rslMid_any s fr j W S63.out hj1 (by omega)
        have hj0 : (0 : Int) ≤ (j : Int) := by omega
        have hp1 : 0 < ln t := HP.out
        clear hr hj2 hj3
        go_wp2_with (first | (go_at_call 29; refine (c2 _).mono ?_; rintro e w' ⟨rfl, rfl⟩) | (go_at_call 31; refine (c5 _).mono ?_; rintro e w' ⟨rfl, rfl⟩) | (at_builtin; refine wpList_append_own _ rfl _ _ 45 rfl w.heap.size 9 i0 (.string ⟨#[]⟩) 1 16 Tryd.underlying45 hi hz0 hz1 hz2 rfl (by decide) _ _ _ rfl (World.ownsRow.alloc (w := wr) HI.out _) ⟨wr.heap.size, 0, none⟩ 1 1 [.string (tx (((us s).drop fr).take (j - fr)))] rfl rfl ?c1 ?c2 ?c3 ?c4 ?c5 ?_))
        case c1 => exact (cell_one_new _ _ _)
        case c2 => simp [Value.oneCell']
        case c3 => have := HLEN.out.2; simp; omega
        case c4 => have := HLEN.out.1; simp; omega
        case c5 => have := hbw.size; simp; omega
        intro v' w2 hown hg _
        have HO := Lib.hid (OwnS.snocP hown)
        have hbb : Below w.heap.size w w2 := (hbw.alloc hbw.size _).grown hg (by have := hbw.size; simp; omega) (fun j hj => (World.ownsRow.lt HI.out j hj).1)
        clear hown hg
        go_wp2_with (first | (go_at_call 29; refine (c2 _).mono ?_; rintro e w' ⟨rfl, rfl⟩) | fail)
        refine (C3.out _ _).mono ?_
        rintro e w' ⟨r2, rfl, hF2, n2, rfl⟩
        have HF2 := Lib.hid (show FindIs (us s) (us t) (j + ln t) r2 by
          rw [show (max ((j : Int) + (ln t : Nat)) 0).toNat = j + ln t by omega] at hF2
          exact hF2)
        clear hF2
        go_wp2
        go_roundw
        case rel => exact ⟨done ++ [((us s).drop fr).take (j - fr)], j + ln t, r2, by go_num, rfl, HF2, hj4, by rw [List.length_append]; simp; omega, HO, HS, below_drewN' hbb n2⟩
        case measure => simp [intOf]; omega
end Go.Proofs.YthnkidncjkhndaaDoor
