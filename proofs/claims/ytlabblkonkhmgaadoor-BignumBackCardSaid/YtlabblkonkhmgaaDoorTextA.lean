/-
  Contracts of Text and Parse of both, whatever the radix.
-/
import Derived.Test.YtlabblkonkhmgaaDoorRtext
import Derived.Test.YtlabblkonkhmgaaDoorRparse
import Derived.Test.YtlabblkonkhmgaaDoorTwo
namespace Go.Proofs.YtlabblkonkhmgaaDoor
open Go.RowKit
/-- Is this no radix? -/
def badR (p : Int) : Prop := p < 2 ∨ 36 < p
instance (p : Int) : Decidable (badR p) := by unfold badR; infer_instance
/-- What Text tells. -/
def TextR (p : Int) (v : Nat) (t : ByteArray) (k : Nat) : Prop :=
  (badR p ∧ t = ByteArray.empty ∧ k = 1) ∨ (¬ badR p ∧ lngB v = true ∧ t = ByteArray.empty ∧ k = 3) ∨ (¬ badR p ∧ lngB v = false ∧ TextQ p.toNat v t ∧ k = 0)
theorem TextR.one {p : Int} {v : Nat} {t u : ByteArray} {k j : Nat} (h : TextR p v t k) (g : TextR p v u j) : t = u ∧ k = j := by
  rcases h with ⟨h1, h2, h3⟩ | ⟨h1, h2, h3, h4⟩ | ⟨h1, h2, h3, h4⟩ <;> rcases g with ⟨g1, g2, g3⟩ | ⟨g1, g2, g3, g4⟩ | ⟨g1, g2, g3, g4⟩
  · exact ⟨by rw [h2, g2], by rw [h3, g3]⟩
  · exact absurd h1 g1
  · exact absurd h1 g1
  · exact absurd g1 h1
  · exact ⟨by rw [h3, g3], by rw [h4, g4]⟩
  · rw [h2] at g2; cases g2
  · exact absurd g1 h1
  · rw [h2] at g2; cases g2
  · exact ⟨TextQ.one (by unfold badR at h1; omega) h3 g3, by rw [h4, g4]⟩
def TextA (p : Int) (v : Nat) (w : World) (e : Ending) (w' : World) : Prop := ∃ t k, e = .returned (.tuple #[.string t, .int .i64 (k : Nat)]) ∧ TextR p v t k ∧ Below w.heap.size w w'
theorem bl_nought : bl ⟨#[48]⟩ = [48] := rfl
set_option maxRecDepth 100000 in
set_option maxHeartbeats 1000000 in
theorem text_any (A : Option Addr) (N c0 : Nat) (p : Int) (l : List Nat) (w : World) (hn : l.length = N) (hc : N ≤ c0) (hm : N ≤ 35184372088832) (h : RW w w.heap.size A l) :
    Calls Tryd.prog 6 #[.slice A N c0, .int .i64 p] w (TextA p (val l) w) := by
  by_cases hb : badR p
  · have HF := Lib.hid (show TextR p (val l) ByteArray.empty 1 from .inl ⟨hb, rfl, rfl⟩)
    have hb2 : p < 2 ∨ (¬ p < 2 ∧ 36 < p) := by unfold badR at hb; omega
    clear hn hc hm h hb
    rcases hb2 with h1 | ⟨h1, h2⟩
    all_goals
      go_enter Tryd.func6, Tryd.ntmps6
      go_wp2
      go_ret2
      exact ⟨_, 1, rfl, HF.out, Below.refl _ _⟩
  · have h1 : ¬ p < 2 := by unfold badR at hb; omega
    have h2 : ¬ 36 < p := by unfold badR at hb; omega
    cases hl : lngB (val l)
    · rcases Nat.eq_zero_or_pos (val l) with h0 | h0
      · have HF := Lib.hid (show TextR p (val l) ⟨#[48]⟩ 0 from .inr (.inr ⟨hb, hl, .inl ⟨h0, bl_nought⟩, rfl⟩))
        have c1 := tooOne_any A N c0 l w hn hc hm h
        rw [hl] at c1
        have hp : Below w.heap.size w (lone w (.slice A N c0)) := (Below.refl _ _).alloc (Nat.le_refl _) _
        have c2 := norm_row A N c0 l (lone w (.slice A N c0)) hn hc hm (h.step hp)
        rw [nrm_val_zero h0] at c2
        have HP := Lib.hid hp
        clear hn hc hm h hb hl h0 hp
        go_enter Tryd.func6, Tryd.ntmps6
        go_wp2_with fail
        refine c1.mono ?_
        rintro e w1 ⟨rfl, rfl⟩
        go_wp2_with fail
        refine c2.mono ?_
        rintro e w2 ⟨rfl, _, hb2⟩
        have HB := Lib.hid (below_le HP.out hb2)
        clear hb2 c2
        go_wp2
        go_ret2
        exact ⟨_, 0, rfl, HF.out, HB.out⟩
      · obtain ⟨r, rfl⟩ : ∃ r : Nat, p = (r : Int) := ⟨p.toNat, by omega⟩
        refine (text_ok A N c0 r l w hn hc hm h (by omega) (by omega) hl h0).mono fun e w' x => ?_
        obtain ⟨t, he, hq, hbw⟩ := x
        exact ⟨t, 0, he, .inr (.inr ⟨hb, hl, by rw [Int.toNat_natCast]; exact hq, rfl⟩), hbw⟩
    · have HF := Lib.hid (show TextR p (val l) ByteArray.empty 3 from .inr (.inl ⟨hb, hl, rfl, rfl⟩))
      have c1 := tooOne_any A N c0 l w hn hc hm h
      rw [hl] at c1
      have HP := Lib.hid (show Below w.heap.size w (lone w (.slice A N c0)) from (Below.refl _ _).alloc (Nat.le_refl _) _)
      clear hn hc hm h hb hl
      go_enter Tryd.func6, Tryd.ntmps6
      go_wp2_with fail
      refine c1.mono ?_
      rintro e w1 ⟨rfl, rfl⟩
      go_wp2
      go_ret2
      exact ⟨_, 3, rfl, HF.out, HP.out⟩
set_option maxRecDepth 100000 in
set_option maxHeartbeats 1000000 in
theorem rtext_any (A : Option Addr) (N c0 : Nat) (p : Int) (l : List Nat) (w : World) (hn : l.length = N) (hc : N ≤ c0) (hm : N ≤ 35184372088832) (h : RW w w.heap.size A l) :
    Calls Tryd.prog 8 #[.slice A N c0, .int .i64 p] w (TextA p (val l) w) := by
  by_cases hb : badR p
  · have HF := Lib.hid (show TextR p (val l) ByteArray.empty 1 from .inl ⟨hb, rfl, rfl⟩)
    have hb2 : p < 2 ∨ (¬ p < 2 ∧ 36 < p) := by unfold badR at hb; omega
    clear hn hc hm h hb
    rcases hb2 with h1 | ⟨h1, h2⟩
    all_goals
      go_enter Tryd.func8, Tryd.ntmps8
      go_wp2
      go_ret2
      exact ⟨_, 1, rfl, HF.out, Below.refl _ _⟩
  · have h1 : ¬ p < 2 := by unfold badR at hb; omega
    have h2 : ¬ 36 < p := by unfold badR at hb; omega
    cases hl : lngB (val l)
    · rcases Nat.eq_zero_or_pos (val l) with h0 | h0
      · have HF := Lib.hid (show TextR p (val l) ⟨#[48]⟩ 0 from .inr (.inr ⟨hb, hl, .inl ⟨h0, bl_nought⟩, rfl⟩))
        have c1 := rlong_any A N c0 l w.heap.size w hn hc hm h
        rw [hl] at c1
        have C2 := Lib.hid (fun W (hb : Below w.heap.size w W) => rnormT A N c0 l 0 W hn hc hm (h.step hb) (by rw [nrm_val_zero h0]; rfl))
        clear hn hc hm h hb hl h0
        go_enter Tryd.func8, Tryd.ntmps8
        go_wp2_with fail
        refine c1.mono ?_
        rintro e w1 ⟨rfl, b1⟩
        go_wp2_with fail
        refine (C2.out _ b1).mono ?_
        rintro e w2 ⟨A2, c2, rfl, _, b2⟩
        have HB := Lib.hid (below_le b1 b2)
        clear b1 b2 C2
        go_wp2
        go_ret2
        exact ⟨_, 0, rfl, HF.out, HB.out⟩
      · obtain ⟨r, rfl⟩ : ∃ r : Nat, p = (r : Int) := ⟨p.toNat, by omega⟩
        refine (rtext_ok A N c0 r l w hn hc hm h (by omega) (by omega) hl h0).mono fun e w' x => ?_
        obtain ⟨t, he, hq, hbw⟩ := x
        exact ⟨t, 0, he, .inr (.inr ⟨hb, hl, by rw [Int.toNat_natCast]; exact hq, rfl⟩), hbw⟩
    · have HF := Lib.hid (show TextR p (val l) ByteArray.empty 3 from .inr (.inl ⟨hb, hl, rfl, rfl⟩))
      have c1 := rlong_any A N c0 l w.heap.size w hn hc hm h
      rw [hl] at c1
      clear hn hc hm h hb hl
      go_enter Tryd.func8, Tryd.ntmps8
      go_wp2_with fail
      refine c1.mono ?_
      rintro e w1 ⟨rfl, b1⟩
      go_wp2
      go_ret2
      exact ⟨_, 3, rfl, HF.out, b1⟩
/-- What Parse tells: a list and a code. -/
def parL (p : Int) (s : ByteArray) : List Nat := if badR p then [] else if adB p.toNat s = true then natL (sv p.toNat s) else []
def parK (p : Int) (s : ByteArray) : Nat := if badR p then 1 else if adB p.toNat s = true then natK (sv p.toNat s) else 4
theorem parL_len (p : Int) (s : ByteArray) : (parL p s).length ≤ 1024 := by
  unfold parL
  split
  · simp
  · split
    · exact natL_len _
    · simp
theorem parTwo_bad {p : Int} {s : ByteArray} {w w' : World} (hb : badR p) (h : Below w.heap.size w w') : Two (parL p s) (parL p s).length (parK p s) w (.returned (.tuple #[.slice none 0 0, .int .i64 1])) w' := by
  have e1 : parL p s = [] := by unfold parL; rw [if_pos hb]
  have e2 : parK p s = 1 := by unfold parK; rw [if_pos hb]
  rw [e1, e2]
  exact ⟨none, 0, rfl, ⟨Nat.le_refl _, RW.nil _ _ _⟩, h⟩
theorem parTwo_none {p : Int} {s : ByteArray} {w w' : World} (hb : ¬ badR p) (ha : adB p.toNat s = false) (h : Below w.heap.size w w') : Two (parL p s) (parL p s).length (parK p s) w (.returned (.tuple #[.slice none 0 0, .int .i64 4])) w' := by
  have e1 : parL p s = [] := by unfold parL; rw [if_neg hb, if_neg (by rw [ha]; simp)]
  have e2 : parK p s = 4 := by unfold parK; rw [if_neg hb, if_neg (by rw [ha]; simp)]
  rw [e1, e2]
  exact ⟨none, 0, rfl, ⟨Nat.le_refl _, RW.nil _ _ _⟩, h⟩
theorem parTwo_ok {p : Int} {s : ByteArray} {w w' : World} {e : Ending} (hb : ¬ badR p) (ha : adB p.toNat s = true) (h : NatPost (sv p.toNat s) w e w') : Two (parL p s) (parL p s).length (parK p s) w e w' := by
  have e1 : parL p s = natL (sv p.toNat s) := by unfold parL; rw [if_neg hb, if_pos ha]
  have e2 : parK p s = natK (sv p.toNat s) := by unfold parK; rw [if_neg hb, if_pos ha]
  rw [e1, e2]
  exact h.two
set_option maxRecDepth 100000 in
set_option maxHeartbeats 1000000 in
theorem parse_any (s : ByteArray) (p : Int) (w : World) (hs : s.size ≤ 4611686018427387903) :
    Calls Tryd.prog 9 #[.string s, .int .i64 p] w (Two (parL p s) (parL p s).length (parK p s) w) := by
  by_cases hb : badR p
  · have HF := Lib.hid (parTwo_bad (s := s) hb (Below.refl w.heap.size w))
    have hb2 : p < 2 ∨ (¬ p < 2 ∧ 36 < p) := by unfold badR at hb; omega
    clear hs hb
    rcases hb2 with h1 | ⟨h1, h2⟩
    all_goals
      go_enter Tryd.func9, Tryd.ntmps9
      go_wp2
      go_ret2
      exact HF.out
  · have h1 : ¬ p < 2 := by unfold badR at hb; omega
    have h2 : ¬ 36 < p := by unfold badR at hb; omega
    obtain ⟨r, rfl⟩ : ∃ r : Nat, p = (r : Int) := ⟨p.toNat, by omega⟩
    cases ha : adB r s
    · have HF := Lib.hid (parTwo_none (s := s) hb (by rw [Int.toNat_natCast]; exact ha) (Below.refl w.heap.size w))
      have c1 := allDigits_any s r w hs (by omega)
      rw [ha] at c1
      clear hs hb ha
      go_enter Tryd.func9, Tryd.ntmps9
      go_wp2_with fail
      refine c1.mono ?_
      rintro e w1 ⟨rfl, rfl⟩
      go_wp2
      go_ret2
      exact HF.out
    · exact (parse_ok s r w hs (by omega) (by omega) ha).mono fun e w' x => parTwo_ok hb (by rw [Int.toNat_natCast]; exact ha) (by rw [Int.toNat_natCast]; exact x)
set_option maxRecDepth 100000 in
set_option maxHeartbeats 1000000 in
theorem rparse_any (s : ByteArray) (p : Int) (w : World) (hs : s.size ≤ 4611686018427387903) :
    Calls Tryd.prog 10 #[.string s, .int .i64 p] w (Two (parL p s) (parL p s).length (parK p s) w) := by
  by_cases hb : badR p
  · have HF := Lib.hid (parTwo_bad (s := s) hb (Below.refl w.heap.size w))
    have hb2 : p < 2 ∨ (¬ p < 2 ∧ 36 < p) := by unfold badR at hb; omega
    clear hs hb
    rcases hb2 with h1 | ⟨h1, h2⟩
    all_goals
      go_enter Tryd.func10, Tryd.ntmps10
      go_wp2
      go_ret2
      exact HF.out
  · have h1 : ¬ p < 2 := by unfold badR at hb; omega
    have h2 : ¬ 36 < p := by unfold badR at hb; omega
    obtain ⟨r, rfl⟩ : ∃ r : Nat, p = (r : Int) := ⟨p.toNat, by omega⟩
    cases ha : adB r s
    · have HF := Lib.hid (fun (w' : World) (h : w = w') => by
        have := parTwo_none (s := s) hb (by rw [Int.toNat_natCast]; exact ha) (Below.refl w.heap.size w)
        rw [h] at this
        exact this)
      have HA := Lib.hid ha
      have H36 := Lib.hid (show r ≤ 36 by omega)
      have hs1 : (s.size : Int) ≤ 4611686018427387903 := by omega
      have hf := parTwo_none (s := s) hb (by rw [Int.toNat_natCast]; exact ha) (Below.refl w.heap.size w)
      have HF2 := Lib.hid hf
      clear hs hb ha HF hf
      go_enter Tryd.func10, Tryd.ntmps10
      go_wp2
      go_loopw [6] (fun iv wr => ∃ k : Nat, iv = .int .i64 (k : Nat) ∧ k ≤ s.size ∧ Hid (∀ i, i < k → dgt (btn s i) < r) ∧ w = wr) (fun iv _ => s.size - (intOf iv).toNat)
      case atStart => exact ⟨0, rfl, Nat.zero_le _, Lib.hid (fun i hi => by omega), rfl⟩
      case round =>
        obtain ⟨k, rfl, hk, HD, rfl⟩ := hrel
        by_cases hlt : k < s.size
        · have C1 := Lib.hid (fun W => show Calls Tryd.prog 33 #[.int .u8 ((s[k]'hlt).toNat : Nat)] W fun e w' => e = .returned (.int .i64 (dgz (btn s k) : Nat)) ∧ W = w' from by
            rw [btn_eq s k hlt]; exact rdigit_any _ W (btn_lt s k))
          have hk1 : (k : Int) < (s.size : Int) := by omega
          have hd1 := dgz_lt (c := btn s k) H36.out
          have hd9 := dgz_le (btn s k)
          obtain ⟨d, hde⟩ : ∃ d, dgz (btn s k) = d := ⟨_, rfl⟩
          rw [hde] at C1 hd1 hd9
          by_cases hdr : d < r
          · have HD2 := Lib.hid (show ∀ i, i < k + 1 → dgt (btn s i) < r from fun i hi => by
              by_cases e : i = k
              · rw [e]; exact hd1.1 hdr
              · exact HD.out i (by omega))
            have a1 : ¬ (r : Int) ≤ (d : Int) := by omega
            clear hde hdr hd1 hd9
            go_wp2_with fail
            refine (C1.out _).mono ?_
            rintro e w' ⟨rfl, rfl⟩
            go_wp2
            go_roundw
            case rel => exact ⟨k + 1, by go_num, by omega, HD2, trivial⟩
            case measure => simp [intOf]; omega
          · have a1 : (r : Int) ≤ (d : Int) := by omega
            clear hde hdr hd1 hd9
            go_wp2_with fail
            refine (C1.out _).mono ?_
            rintro e w' ⟨rfl, rfl⟩
            go_wp2
            go_ret2
            exact HF2.out
        · have hz : s.size = 0 := by
            have h := HA.out
            rw [adB_yes (fun i hi => HD.out i (by omega))] at h
            have := of_decide_eq_false h
            omega
          have b0 : ((s.size : Int) == 0) = true := by rw [hz]; rfl
          have hk0 : k = 0 := by omega
          have b1 : ¬ (k : Int) < (s.size : Int) := by omega
          clear hlt hz hk0
          go_wp2
          go_ret2
          exact HF2.out
    · have hdd : (0 < s.size) ∧ ∀ i, i < s.size → dgt (btn s i) < r := by
        unfold adB at ha
        have := Bool.and_eq_true _ _ ▸ ha
        exact ⟨of_decide_eq_true this.1, of_decide_eq_true this.2⟩
      exact (rparse_ok s r w hs (by omega) (by omega) hdd.2 hdd.1).mono fun e w' x => parTwo_ok hb (by rw [Int.toNat_natCast]; exact ha) (by rw [Int.toNat_natCast]; exact x)
end Go.Proofs.YtlabblkonkhmgaaDoor
