/-
  Contract of Shl of the program.
-/
import Derived.Test.YtclggnaljijjoaaShPow
namespace Go.Proofs.Ytclggnaljijjoaa
open Go.RowKit
/-- What Shl tells. -/
def ShlQ (v : Nat) (n : Int) (w : World) (e : Ending) (w' : World) : Prop := if lngB v = true then ErrPost 3 w e w' else if n < 0 then ErrPost 1 w e w' else NatPost (v * 2 ^ n.toNat) w e w'
set_option maxHeartbeats 1000000 in
theorem pshl_long (A : Option Addr) (n c : Nat) (p : Int) (l : List Nat) (w : World) (hn : l.length = n) (hc : n ≤ c) (hm : n ≤ 35184372088832) (h : RW w w.heap.size A l) (hl : lngB (val l) = true) :
    Calls Try.prog 29 #[.slice A n c, .int .i64 p] w (ErrPost 3 w) := by
  have c1 := cut_any A n c l w.heap.size w hn hc hm h
  have hle := nrm_len l
  obtain ⟨N, hN⟩ : ∃ N, (nrm l).length = N := ⟨_, rfl⟩
  rw [hN] at c1 hle
  have c2 := tooOne_any A N N (nrm l) w hN (Nat.le_refl _) (by omega) h.nrm
  rw [val_nrm, hl] at c2
  have HP := Lib.hid (show Below w.heap.size w (lone w (.slice A N N)) from (Below.refl _ _).alloc (Nat.le_refl _) _)
  clear hn hc hm h hl hle hN
  go_enter Try.func29, Try.ntmps29
  go_wp2_with fail
  refine c1.mono ?_
  rintro e w1 ⟨rfl, rfl⟩
  go_wp2_with fail
  refine c2.mono ?_
  rintro e w1 ⟨rfl, rfl⟩
  go_wp2
  go_ret2
  exact ⟨rfl, HP.out⟩
set_option maxHeartbeats 1000000 in
theorem pshl_neg (A : Option Addr) (n c : Nat) (p : Int) (l : List Nat) (w : World) (hn : l.length = n) (hc : n ≤ c) (hm : n ≤ 35184372088832) (h : RW w w.heap.size A l) (hl : lngB (val l) = false) (hp : p < 0) :
    Calls Try.prog 29 #[.slice A n c, .int .i64 p] w (ErrPost 1 w) := by
  have c1 := cut_any A n c l w.heap.size w hn hc hm h
  have hle := nrm_len l
  obtain ⟨N, hN⟩ : ∃ N, (nrm l).length = N := ⟨_, rfl⟩
  rw [hN] at c1 hle
  have c2 := tooOne_any A N N (nrm l) w hN (Nat.le_refl _) (by omega) h.nrm
  rw [val_nrm, hl] at c2
  have HP := Lib.hid (show Below w.heap.size w (lone w (.slice A N N)) from (Below.refl _ _).alloc (Nat.le_refl _) _)
  clear hn hc hm h hl hle hN
  go_enter Try.func29, Try.ntmps29
  go_wp2_with fail
  refine c1.mono ?_
  rintro e w1 ⟨rfl, rfl⟩
  go_wp2_with fail
  refine c2.mono ?_
  rintro e w1 ⟨rfl, rfl⟩
  go_wp2
  go_ret2
  exact ⟨rfl, HP.out⟩
set_option maxHeartbeats 1000000 in
theorem pshl_zero (A : Option Addr) (n c : Nat) (p : Int) (l : List Nat) (w : World) (hn : l.length = n) (hc : n ≤ c) (hm : n ≤ 35184372088832) (h : RW w w.heap.size A l) (hp : 0 ≤ p) (h0 : nrm l = []) :
    Calls Try.prog 29 #[.slice A n c, .int .i64 p] w (NatPost 0 w) := by
  have c1 := cut_any A n c l w.heap.size w hn hc hm h
  rw [h0] at c1
  have c2 := tooOne_any A 0 0 [] w rfl (Nat.le_refl _) (by omega) (RW.nil _ _ _)
  rw [show lngB (val []) = false from lng_small (by simp [val])] at c2
  have HP := Lib.hid (show Below w.heap.size w (lone w (.slice A 0 0)) from (Below.refl _ _).alloc (Nat.le_refl _) _)
  have hp1 : ¬ p < 0 := by omega
  clear hn hc hm h h0
  go_enter Try.func29, Try.ntmps29
  go_wp2_with fail
  refine c1.mono ?_
  rintro e w1 ⟨rfl, rfl⟩
  go_wp2_with fail
  refine c2.mono ?_
  rintro e w1 ⟨rfl, rfl⟩
  go_wp2
  go_ret2
  exact NatPost.ok (lng_small (by omega)) rfl (Nat.le_refl _) (RW.nil _ _ _) HP.out
set_option maxHeartbeats 2000000 in
theorem pshl_far (A : Option Addr) (n c : Nat) (p : Int) (l : List Nat) (w : World) (hn : l.length = n) (hc : n ≤ c) (hm : n ≤ 35184372088832) (h : RW w w.heap.size A l) (hl : lngB (val l) = false) (hp : 0 ≤ p) (h0 : nrm l ≠ []) (hf : 32768 < (btl (nrm l) : Int) + p) :
    Calls Try.prog 29 #[.slice A n c, .int .i64 p] w (fun e w' => e = .returned (.tuple #[.slice none 0 0, .int .i64 3]) ∧ Below w.heap.size w w') := by
  have c1 := cut_any A n c l w.heap.size w hn hc hm h
  have n1 := lng_len h.1 hl
  have hpos : 0 < (nrm l).length := List.length_pos_iff.2 h0
  obtain ⟨N, hN⟩ : ∃ N, (nrm l).length = N := ⟨_, rfl⟩
  rw [hN] at c1 n1 hpos
  have c2 := tooOne_any A N N (nrm l) w hN (Nat.le_refl _) (by omega) h.nrm
  rw [val_nrm, hl] at c2
  have hp2 : Below w.heap.size w (lone w (.slice A N N)) := (Below.refl _ _).alloc (Nat.le_refl _) _
  have c3 := bits_any A N N (nrm l) w.heap.size _ hN (Nat.le_refl _) (by omega) (h.nrm.below hp2)
  have hb := btl_le h.1.nrm
  rw [nrm_nrm, hN] at hb
  obtain ⟨q, hq⟩ : ∃ q, btl (nrm l) = q := ⟨_, rfl⟩
  rw [hq] at c3 hf hb
  have HP := Lib.hid hp2
  have hp1 : ¬ p < 0 := by omega
  have hN0 : (0 : Int) < (N : Int) := by omega
  have hqq : (q : Int) ≤ 32768 := by omega
  have e1 : IntKind.i64.wrap (32768 - (q : Int)) = 32768 - (q : Int) := IntWalk.i64_in _ (by omega)
  have e2 : 32768 - (q : Int) < p := by omega
  clear hn hc hm h hl hN h0 hp2 hq hpos n1 hb hf
  go_enter Try.func29, Try.ntmps29
  go_wp2_with fail
  refine c1.mono ?_
  rintro e w1 ⟨rfl, rfl⟩
  go_wp2_with fail
  refine c2.mono ?_
  rintro e w1 ⟨rfl, rfl⟩
  go_wp2_with fail
  refine c3.mono ?_
  rintro e w1 ⟨rfl, rfl⟩
  go_wp2
  go_ret2
  exact ⟨rfl, HP.out⟩
end Go.Proofs.Ytclggnaljijjoaa
