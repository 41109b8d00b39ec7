/-
  Contracts of the reference's LastIndex.
-/
import Derived.Test.YthnkidncjkhndaaDoorRindex
namespace Go.Proofs.YthnkidncjkhndaaDoor
open Go.RowKit
/-- r is the last place, at fr or before it, where t stands in s; -1 where there is none. -/
def LastIs (s t : List Nat) (fr : Int) (r : Int) : Prop := (r = -1 ∧ ∀ j : Nat, (j : Int) ≤ fr → ¬ St s t j) ∨ (∃ j : Nat, r = j ∧ (j : Int) ≤ fr ∧ St s t j ∧ ∀ k : Nat, j < k → (k : Int) ≤ fr → ¬ St s t k)
theorem LastIs_unique {s t : List Nat} {fr : Int} {r q : Int} (h : LastIs s t fr r) (g : LastIs s t fr q) : r = q := by
  rcases h with ⟨h1, h2⟩ | ⟨j, h1, h2, h3, h4⟩ <;> rcases g with ⟨g1, g2⟩ | ⟨k, g1, g2, g3, g4⟩
  · omega
  · exact absurd g3 (h2 k g2)
  · exact absurd h3 (g2 j h2)
  · rcases Nat.lt_trichotomy j k with h | h | h
    · exact absurd g3 (h4 k h g2)
    · omega
    · exact absurd h3 (g4 j h h2)
set_option maxRecDepth 100000 in
set_option maxHeartbeats 2000000 in
theorem rlast_any (s t : ByteArray) (fr : Int) (w : World) (hs : s.size ≤ 35184372088832) (ht : t.size ≤ 35184372088832) :
    Calls Tryd.prog 35 #[.string s, .string t, .int .i64 fr] w fun e w' => ∃ r : Int, e = .returned (.int .i64 r) ∧ LastIs (us s) (us t) fr r ∧ ∃ n, w' = w.drewN n := by
  have hl := ln_le s
  have hm : ((ln s : Nat) : Int) ≤ 17592186044416 := by omega
  have h63 : s.size ≤ maxLen := by unfold maxLen; omega
  have c1 := fun W => rlen_any s W h63
  have HS := Lib.hid (fun W (k : Nat) (hk : k ≤ ln s) => stands_any s t k W hs ht hk)
  have hsl := us_length s
  clear hs ht hl h63
  have main : ∀ m : Int, ((¬ fr > (ln s : Nat) ∧ fr = m) ∨ (fr > (ln s : Nat) ∧ m = (ln s : Nat))) → Calls Tryd.prog 35 #[.string s, .string t, .int .i64 fr] w fun e w' => ∃ r : Int, e = .returned (.int .i64 r) ∧ LastIs (us s) (us t) fr r ∧ ∃ n, w' = w.drewN n := by
    intro m hf
    have HF0 := Lib.hid (show ∀ j : Nat, m < j → (j : Int) ≤ fr → ¬ St (us s) (us t) j from fun j h1 h2 h3 => by have := h3.1; omega)
    have hml : m ≤ (ln s : Nat) := by omega
    have hmf : m ≤ fr := by omega
    rcases hf with ⟨hf, rfl⟩ | ⟨hf, rfl⟩
    all_goals
      go_enter Tryd.func35, Tryd.ntmps35
      go_wp2_with (go_at_call 29; refine (c1 _).mono ?_; rintro e w' ⟨rfl, rfl⟩)
      go_loopw [7] (fun i wr => ∃ k : Int, i = .int .i64 k ∧ k ≤ (ln s : Nat) ∧ k ≤ fr ∧ Hid (∀ j : Nat, k < j → (j : Int) ≤ fr → ¬ St (us s) (us t) j) ∧ ∃ n, wr = w.drewN n) (fun i _ => (intOf i + 1).toNat)
      case atStart => exact ⟨_, rfl, hml, hmf, HF0, 0, rfl⟩
      case round =>
        obtain ⟨k, rfl, hk0, hk1, HF, n, rfl⟩ := hrel
        by_cases hlt : 0 ≤ k
        · obtain ⟨k, rfl⟩ := Int.eq_ofNat_of_zero_le hlt
          have c2 := HS.out (w.drewN n) k (by omega)
          clear HF0 hml hmf
          go_wp2_with fail
          refine c2.mono ?_
          rintro e w' ⟨q, rfl, hq, n2, rfl⟩
          cases q
          · have HF2 := Lib.hid (show ∀ j : Nat, (k : Int) - 1 < j → (j : Int) ≤ fr → ¬ St (us s) (us t) j from fun j h1 h2 h3 => by
              by_cases h4 : j = k
              · subst h4; exact absurd (hq.2 h3) (by simp)
              · exact HF.out j (by omega) h2 h3)
            clear hq
            go_wp2
            go_roundw
            case rel => exact ⟨(k : Int) - 1, by go_num, by omega, by omega, HF2, _, rfl⟩
            case measure => simp [intOf]
          · have HE := Lib.hid (show LastIs (us s) (us t) fr (k : Nat) from .inr ⟨k, rfl, by omega, hq.1 rfl, fun j h1 h2 => HF.out j (by omega) h2⟩)
            clear hq
            go_wp2
            go_ret
            exact ⟨_, rfl, HE.out, _, rfl⟩
        · have HE := Lib.hid (show LastIs (us s) (us t) fr (-1) from .inl ⟨rfl, fun j h1 h2 => HF.out j (by omega) h1 h2⟩)
          clear HF0 hml hmf
          go_wp2
          go_ret
          exact ⟨_, rfl, HE.out, _, rfl⟩
  exact main (min fr (ln s : Nat)) (by omega)
end Go.Proofs.YthnkidncjkhndaaDoor
