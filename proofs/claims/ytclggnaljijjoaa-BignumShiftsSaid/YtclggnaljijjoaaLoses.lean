/-
  Contract of loses.
-/
import Derived.Test.YtclggnaljijjoaaLosPure
namespace Go.Proofs.Ytclggnaljijjoaa
open Go.RowKit
theorem sh_ne (x t : Nat) : (((x : Int) * 2 ^ t % 4294967296) != 0) = decide (x * 2 ^ t % 4294967296 ≠ 0) := by
  have e : ((x : Int) * 2 ^ t % 4294967296) = ((x * 2 ^ t % 4294967296 : Nat) : Int) := by rw [Int.natCast_emod, Int.natCast_mul, Int.natCast_pow]; rfl
  rw [e]
  by_cases h : x * 2 ^ t % 4294967296 = 0
  · rw [h]; rfl
  · rw [decide_eq_true h]
    simp only [bne_iff_ne, ne_eq]
    omega
set_option maxRecDepth 100000 in
set_option maxHeartbeats 1000000 in
theorem loses_any (b off n c p o s : Nat) (l : List Nat) (B : Nat) (w : World) (hn : l.length = n) (hc : n ≤ c) (hm : n ≤ 35184372087808) (h : RW w B (some ⟨b, off, none⟩) l) (hpo : p = 32 * o + s) (hs : s < 32) (ho : o < n) :
    Calls Try.prog 57 #[.slice (some ⟨b, off, none⟩) n c, .int .i64 p] w fun e w' => e = .returned (.bool (decide (val l % 2 ^ p ≠ 0))) ∧ w = w' := by
  have hcell : ∀ k u : Nat, l[k]? = some u → w.cell? ⟨b, off + k, none⟩ = some (.int .u32 (u : Int)) := by
    obtain ⟨b2, off2, he, _, hc2⟩ := h.2 (by omega)
    cases he
    exact hc2
  have hcl := hcell o _ (getD_some (by omega))
  have HE := Lib.hid (fun k hk hx => loss_early (k := k) h.1 o s (by omega) (by omega) hk hx)
  have HL := Lib.hid (fun hz => loss_late h.1 o s (by omega) (by omega) hz)
  rw [← hpo] at HE HL
  have HCELL := Lib.hid hcell
  have HN := Lib.hid hn
  have ho1 : (o : Int) < (n : Int) := by omega
  have hn1 : (n : Int) ≤ 35184372087808 := by omega
  have hc1 : (n : Int) ≤ (c : Int) := by omega
  have hoc : o ≤ c := by omega
  have e3 : (p : Int) / 32 = (o : Int) := by omega
  have e4 : (p : Int) % 32 = (s : Int) := by omega
  have p0 : (0 : Int) ≤ (p : Int) := by omega
  have hs1 : (s : Int) < 32 := by omega
  have hs0 : (0 : Int) ≤ (s : Int) := by omega
  have e2 : IntKind.i64.wrap (32 - (s : Int)) = 32 - (s : Int) := IntWalk.i64_in _ (by omega)
  have e5 : (0 : Int) ≤ 32 - (s : Int) := by omega
  obtain ⟨x, hx⟩ : ∃ x, l.getD o 0 = x := ⟨_, rfl⟩
  rw [hx] at HL hcl
  clear hn hc hm h hpo hs hcell hx
  go_enter Try.func57, Try.ntmps57
  go_wp2
  go_loopw [12] (fun i wr => ∃ (k : Nat), i = .int .i64 k ∧ k ≤ o ∧ Hid (∀ j, j < k → l.getD j 0 = 0) ∧ w = wr) (fun i _ => o - (intOf i).toNat)
  case atStart => exact ⟨0, rfl, Nat.zero_le _, Lib.hid (fun j hj => by omega), rfl⟩
  case round =>
    obtain ⟨k, rfl, hk, HZ, rfl⟩ := hrel
    by_cases hlt : k < o
    · have hck := HCELL.out k _ (getD_some (by rw [HN.out]; omega))
      obtain ⟨y, hy⟩ : ∃ y, l.getD k 0 = y := ⟨_, rfl⟩
      rw [hy] at hck
      have hkk : (k : Int) < (o : Int) := by omega
      by_cases h0 : y = 0
      · subst h0
        have HZ2 := Lib.hid (show ∀ j, j < k + 1 → l.getD j 0 = 0 from fun j hj => by
          rcases Nat.lt_or_ge j k with h1 | h1
          · exact HZ.out j h1
          · rw [show j = k by omega]; exact hy)
        clear hy
        go_wp2
        go_roundw
        case rel => exact ⟨k + 1, by go_num, by omega, HZ2, trivial⟩
        case measure => simp [intOf]; omega
      · have HF := Lib.hid (HE.out k hlt (by rw [hy]; exact h0))
        have hyn : ((y : Int) == 0) = false := by simp; omega
        have hyn2 : ¬ (y : Int) = 0 := by omega
        clear hy
        go_wp2
        go_ret
        exact ⟨ret_bool HF.out.symm, rfl⟩
    · have hko : k = o := by omega
      subst hko
      have HF := Lib.hid (HL.out HZ.out)
      clear hlt hk
      go_wp2
      go_ret
      exact ⟨ret_bool (by rw [HF.out, ← sh_ne]), rfl⟩
end Go.Proofs.Ytclggnaljijjoaa
