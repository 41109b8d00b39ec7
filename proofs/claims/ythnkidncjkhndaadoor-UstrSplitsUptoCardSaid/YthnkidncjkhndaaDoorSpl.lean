/-
  Contracts of single and of Split of the program, of Split of the reference, and of the law's comparison of texts (texts of at most 2^20 bytes).
-/
import Derived.Test.YthnkidncjkhndaaDoorSplPure
import Derived.Test.YthnkidncjkhndaaDoorRindex
import Derived.Test.YthnkidncjkhndaaDoorUnitLaw
namespace Go.Proofs.YthnkidncjkhndaaDoor
open Go.RowKit
theorem info9 : (Tryd.prog.info? 9).map (fun i => (i.zero, i.size, i.bytes)) = some (some (.string ⟨#[]⟩), 1, 16) := by kernel_rfl
/-- The slice of texts v is the call's own and holds L. -/
abbrev OwnS (B : Nat) (L : List ByteArray) (v : Value) (w : World) : Prop := w.ownsRow B 9 1 v L.length (L.map Value.string)
theorem OwnS.nil (B : Nat) (w : World) : OwnS B [] (.slice none 0 0) w := World.ownsRow_nil _ _ _ _
theorem OwnS.snoc {B : Nat} {L : List ByteArray} {x : ByteArray} {v : Value} {w : World} (h : w.ownsRow B 9 1 v (L.length + 1) (L.map Value.string ++ [Value.string x])) : OwnS B (L ++ [x]) v w := by
  unfold OwnS
  rw [List.length_append, List.map_append]
  exact h
theorem OwnS.more {B C : Nat} {L : List ByteArray} {v : Value} {w : World} (hB : B ≤ C) (h : OwnS C L v w) : OwnS B L v w := by
  refine ⟨h.1, ?_⟩
  rcases h.2 with h2 | ⟨g, cap, cur, e, h3, h4⟩
  · exact .inl h2
  · exact .inr ⟨g, cap, cur, e, by omega, h4⟩
theorem OwnS.snocP {B : Nat} {L : List (List Nat)} {x : List Nat} {v : Value} {w : World} (h : w.ownsRow B 9 1 v (L.length + 1) (L.map (Value.string ∘ tx) ++ [Value.string (tx x)])) : OwnS B ((L ++ [x]).map tx) v w := by
  rw [List.map_append]
  refine OwnS.snoc (L := L.map tx) (x := tx x) ?_
  rw [List.length_map, List.map_map]
  exact h
/-- What Split tells. -/
def SplPost (s t : ByteArray) (w : World) (e : Ending) (w' : World) : Prop := ∃ v ps, e = .returned v ∧ Spl (us s) (us t) 0 ps ∧ OwnS w.heap.size (ps.map tx) v w' ∧ Below w.heap.size w w'
theorem slEnd_any (s : ByteArray) (f : Nat) (w : World) (hs : s.size ≤ maxLen) (h : f ≤ ln s) :
    Calls Tryd.prog 30 #[.string s, .int .i64 f, .int .i64 (ln s : Nat)] w fun e w' => e = .returned (.string (tx ((us s).drop f))) ∧ w = w' := by
  refine (slice_any s f (ln s : Nat) w hs).mono ?_
  rintro e w' ⟨rfl, rfl⟩
  exact ⟨by rw [slS_end s f h], rfl⟩
theorem slMid_any (s : ByteArray) (f j : Nat) (w : World) (hs : s.size ≤ maxLen) (h : f ≤ j) (h2 : j ≤ ln s) :
    Calls Tryd.prog 30 #[.string s, .int .i64 f, .int .i64 j] w fun e w' => e = .returned (.string (tx (((us s).drop f).take (j - f)))) ∧ w = w' := by
  refine (slice_any s f j w hs).mono ?_
  rintro e w' ⟨rfl, rfl⟩
  exact ⟨by rw [slS_tx s f j h h2], rfl⟩
set_option maxRecDepth 100000 in
set_option maxHeartbeats 2000000 in
theorem split_any (s t : ByteArray) (w : World) (hs : s.size ≤ 1048576) (ht : t.size ≤ 1048576) (hp : 0 < ln t) :
    Calls Tryd.prog 55 #[.string s, .string t] w (SplPost s t w) := by
  obtain ⟨i0, hi, hz0, hz1, hz2⟩ := info_parts info9
  have hl := ln_le s
  have hl2 := ln_le t
  have hm : ((ln s : Nat) : Int) ≤ 524288 := by omega
  have hm2 : ((ln t : Nat) : Int) ≤ 524288 := by omega
  have hp' : ¬ ((ln t : Nat) : Int) = 0 := by omega
  have S63 := Lib.hid (show s.size ≤ maxLen by unfold maxLen; omega)
  have T63 := Lib.hid (show t.size ≤ maxLen by unfold maxLen; omega)
  have c1 := fun W => len_any s W S63.out
  have c2 := fun W => len_any t W T63.out
  have c3 := fun W => borders_any t W (by omega)
  have hsl := us_length s
  have htl := us_length t
  have HSL := Lib.hid hsl
  have HTL := Lib.hid htl
  clear hs ht hl hl2 hsl htl
  go_enter Tryd.func55, Tryd.ntmps55
  go_wp2_with (first | (go_at_call 28; refine (c2 _).mono ?_; rintro e w' ⟨rfl, rfl⟩) | fail)
  refine (c3 _).mono ?_
  rintro e w1 ⟨f, rfl, hrow, hbd, hbel⟩
  have HROW := Lib.hid hrow
  have HBD := Lib.hid hbd
  have hlt := World.rowIs.lt hrow
  clear hrow hbd c3 c2
  go_wp2
  go_loopw [5, 7] (fun v i wr => ∃ (done : List (List Nat)) (fr : Nat), i = .int .i64 fr ∧ fr ≤ ln s ∧ done.length ≤ fr ∧ Hid (OwnS w1.heap.size (done.map tx) v wr) ∧ Hid (∀ ps, Spl (us s) (us t) fr ps → Spl (us s) (us t) 0 (done ++ ps)) ∧ Below w1.heap.size w1 wr) (fun _ i _ => ln s - (intOf i).toNat)
  case atStart => exact ⟨[], 0, rfl, Nat.zero_le _, Nat.le_refl _, Lib.hid (OwnS.nil _ _), Lib.hid (fun ps h => h), Below.refl _ _⟩
  case round =>
    obtain ⟨done, fr, rfl, hfr, hdl, HI, HK, hbw⟩ := hrel
    have C4 := Lib.hid (find_any s t w.heap.size f fr wr S63.out T63.out hp (by omega) (row_below HROW.out hlt hbw) HBD.out)
    have hlen : ∀ x : List Nat, ((done.map tx).length + 1) * 16 ≤ 140737488355328 ∧ (done.map tx).length + 1 ≤ maxLen := fun _ => by
      rw [List.length_map]; unfold maxLen; omega
    have HLEN := Lib.hid (hlen [])
    clear hlen
    go_wp2_with fail
    refine C4.out.mono ?_
    rintro e w' ⟨r, rfl, hF, n, rfl⟩
    by_cases hr : r = -1
    · subst hr
      have HS := Lib.hid (HK.out _ (Spl.last fr hF))
      have c5 := fun W => slEnd_any s fr W S63.out hfr
      clear hF C4
      go_wp2_with (first | (go_at_call 28; refine (c1 _).mono ?_; rintro e w' ⟨rfl, rfl⟩) | (go_at_call 30; refine (c5 _).mono ?_; rintro e w' ⟨rfl, rfl⟩) | (at_builtin; refine wpList_append_own _ rfl _ _ 45 rfl w1.heap.size 9 i0 (.string ⟨#[]⟩) 1 16 Tryd.underlying45 hi hz0 hz1 hz2 rfl (by decide) _ _ _ rfl (World.ownsRow.alloc (w := wr) HI.out _) ⟨wr.heap.size, 0, none⟩ 1 1 [.string (tx ((us s).drop fr))] rfl rfl ?c1 ?c2 ?c3 ?c4 ?c5 ?_))
      case c1 => exact (cell_one_new _ _ _)
      case c2 => simp [Value.oneCell']
      case c3 => exact HLEN.out.2
      case c4 => exact HLEN.out.1
      case c5 => have := hbw.size; simp; omega
      intro v' w2 hown hg _
      have HO := Lib.hid (OwnS.snocP hown)
      have hbb : Below w1.heap.size w1 w2 := ((below_drewN' hbw n).alloc hbw.size _).grown hg (by have := hbw.size; simp; omega) (fun j hj => (World.ownsRow.lt HI.out j hj).1)
      clear hown hg
      go_wp2
      go_ret
      refine ⟨_, _, rfl, HS.out, ?_, below_le hbel hbb⟩
      exact OwnS.more hbel.size HO.out
    · obtain ⟨j, rfl, hj1, hj2, hj3⟩ : ∃ j : Nat, r = j ∧ fr ≤ j ∧ St (us s) (us t) j ∧ FindIs (us s) (us t) fr (j : Int) := by
        rcases hF with ⟨h, _⟩ | ⟨j, h, h1, h2, h3⟩
        · exact absurd h hr
        · exact ⟨j, h, h1, h2, .inr ⟨j, rfl, h1, h2, h3⟩⟩
      have hj4 : j + ln t ≤ ln s := by have := hj2.1; rw [HSL.out, HTL.out] at this; exact this
      have HS := Lib.hid (show ∀ ps, Spl (us s) (us t) (j + ln t) ps → Spl (us s) (us t) 0 ((done ++ [((us s).drop fr).take (j - fr)]) ++ ps) from fun ps h => by
        rw [List.append_assoc]
        exact HK.out _ (Spl.more fr j ps hj3 (by rw [HTL.out]; exact h)))
      have c5 := fun W => slMid_any s fr j W S63.out hj1 (by omega)
      clear hF C4 hr hj2 hj3
      go_wp2_with (first | (go_at_call 30; refine (c5 _).mono ?_; rintro e w' ⟨rfl, rfl⟩) | (at_builtin; refine wpList_append_own _ rfl _ _ 45 rfl w1.heap.size 9 i0 (.string ⟨#[]⟩) 1 16 Tryd.underlying45 hi hz0 hz1 hz2 rfl (by decide) _ _ _ rfl (World.ownsRow.alloc (w := wr) HI.out _) ⟨wr.heap.size, 0, none⟩ 1 1 [.string (tx (((us s).drop fr).take (j - fr)))] rfl rfl ?c1 ?c2 ?c3 ?c4 ?c5 ?_))
      case c1 => exact (cell_one_new _ _ _)
      case c2 => simp [Value.oneCell']
      case c3 => exact HLEN.out.2
      case c4 => exact HLEN.out.1
      case c5 => have := hbw.size; simp; omega
      intro v' w2 hown hg _
      have HO := Lib.hid (OwnS.snocP hown)
      have hbb : Below w1.heap.size w1 w2 := ((below_drewN' hbw n).alloc hbw.size _).grown hg (by have := hbw.size; simp; omega) (fun j hj => (World.ownsRow.lt HI.out j hj).1)
      clear hown hg
      go_wp2
      go_roundw
      case rel => exact ⟨done ++ [((us s).drop fr).take (j - fr)], j + ln t, by go_num, hj4, by rw [List.length_append]; simp; omega, HO, HS, hbb⟩
      case measure => simp [intOf]; omega
end Go.Proofs.YthnkidncjkhndaaDoor
