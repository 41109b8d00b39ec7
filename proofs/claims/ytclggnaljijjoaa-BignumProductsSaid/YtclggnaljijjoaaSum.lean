/-
  Contracts of word, of Add32, of Add and Plus.
-/
import Derived.Test.YtclggnaljijjoaaMul
import Derived.Test.YtclggnaljijjoaaPlain
namespace Go.Proofs.Ytclggnaljijjoaa
open Go.RowKit
theorem word_nat (A : Option Addr) (n c i : Nat) (l : List Nat) (B : Nat) (w : World) (hn : l.length = n) (hm : n ≤ 35184372088832) (h : RW w B A l) :
    Calls Try.prog 42 #[.slice A n c, .int .i64 i] w fun e w' => e = .returned (.int .u32 (l.getD i 0 : Nat)) ∧ w = w' := by
  by_cases hi : i < n
  · obtain ⟨b, off, rfl, _, hc⟩ := h.2 (by omega)
    have hcell := hc i _ (getD_some (by omega))
    obtain ⟨u, hu⟩ : ∃ u, l.getD i 0 = u := ⟨_, rfl⟩
    rw [hu] at hcell ⊢
    have h0 : decide ((i : Int) < 0) = false := by simp
    have h1 : decide (n ≤ i) = false := by simp; omega
    have h3 : (i : Int) < (n : Int) := by omega
    have h2 : (n : Int) ≤ 35184372088832 := by omega
    clear hn hm h hc hu hi
    go_enter Try.func42, Try.ntmps42
    go_wp2
    go_ret
    exact ⟨rfl, rfl⟩
  · have e : l.getD i 0 = 0 := getD_none (by omega)
    rw [e]
    have h0 : decide ((i : Int) < 0) = false := by simp
    have h1 : (n : Int) ≤ (i : Int) := by omega
    clear hn hm h e hi
    go_enter Try.func42, Try.ntmps42
    go_wp2
    go_ret
    exact ⟨rfl, rfl⟩
theorem word_neg (A : Option Addr) (n c : Nat) (w : World) :
    Calls Try.prog 42 #[.slice A n c, .int .i64 (-1)] w fun e w' => e = .returned (.int .u32 0) ∧ w = w' := by
  go_enter Try.func42, Try.ntmps42
  go_wp2
  go_ret
  exact ⟨rfl, rfl⟩
theorem add32_any (x y c : Nat) (w : World) (hx : x < 4294967296) (hy : y < 4294967296) (hc : c < 4294967296) :
    Calls Try.prog 41 #[.int .u32 x, .int .u32 y, .int .u32 c] w fun e w' => e = .returned (.tuple #[.int .u32 ((x + y + c) % 4294967296 : Nat), .int .u32 ((x + y + c) / 4294967296 : Nat)]) ∧ w = w' := by
  have k1 : IntKind.u64.wrap (x : Int) = (x : Int) := IntWalk.u64_in _ (by omega)
  have k2 : IntKind.u64.wrap (y : Int) = (y : Int) := IntWalk.u64_in _ (by omega)
  have k3 : IntKind.u64.wrap (c : Int) = (c : Int) := IntWalk.u64_in _ (by omega)
  have k4 : IntKind.u64.wrap ((x : Int) + (y : Int)) = (x : Int) + (y : Int) := IntWalk.u64_in _ (by omega)
  obtain ⟨t, ht⟩ : ∃ t, x + y + c = t := ⟨_, rfl⟩
  have k5 : IntKind.u64.wrap ((x : Int) + (y : Int) + (c : Int)) = (t : Int) := by rw [IntWalk.u64_in _ (by omega)]; omega
  rw [ht]
  have HT := Lib.hid (show t < 12884901888 by omega)
  have k6 : IntKind.u32.wrap ((t : Int) / 4294967296) = (t : Int) / 4294967296 := IntWalk.u32_in _ (by omega)
  clear hx hy hc ht
  go_enter Try.func41, Try.ntmps41
  go_wp2
  go_ret2
  exact ⟨rfl, rfl⟩
theorem OwnW.snoc {B : Nat} {L : List Nat} {u : Nat} {v : Value} {w : World} (h : w.ownsRow B 40 1 v (L.length + 1) (L.map (fun u => Value.int .u32 (u : Nat)) ++ [Value.int .u32 (u : Nat)])) : OwnW B (L ++ [u]) v w := by
  unfold OwnW
  rw [List.length_append, List.map_append]
  exact h
theorem ErrPost.from_ {k : Nat} {w w1 w' : World} {e : Ending} (hb : Below w.heap.size w w1) (h : ErrPost k w1 e w') : ErrPost k w e w' := ⟨h.1, below_le hb h.2⟩
set_option maxRecDepth 100000 in
set_option maxHeartbeats 4000000 in
theorem add_ok (A C : Option Addr) (n c m d : Nat) (l k : List Nat) (w : World) (hn : l.length = n) (hc : n ≤ c) (hm : n ≤ 35184372088832) (h : RW w w.heap.size A l)
    (gn : k.length = m) (gc : m ≤ d) (gm : m ≤ 35184372088832) (g : RW w w.heap.size C k) (hl : (lngB (val l) || lngB (val k)) = false) :
    Calls Try.prog 21 #[.slice A n c, .slice C m d] w (NatPost (val l + val k) w) := by
  have c1 := tooTwo_any A C n c m d l k w hn hc hm h gn gc gm g
  have hp : Below w.heap.size w (pair w (.slice A n c) (.slice C m d)) := (Below.refl _ _).alloc (Nat.le_refl _) _
  rw [hl] at c1
  obtain ⟨hl1, hl2⟩ : lngB (val l) = false ∧ lngB (val k) = false := by simpa using hl
  have c2 := cut_any A n c l w.heap.size _ hn hc hm (h.below hp)
  have c3 := cut_any C m d k w.heap.size _ gn gc gm (g.below hp)
  have n1 := lng_len h.1 hl1
  have n2 := lng_len g.1 hl2
  obtain ⟨a, ha⟩ : ∃ a, nrm l = a := ⟨_, rfl⟩
  obtain ⟨b, hb⟩ : ∃ b, nrm k = b := ⟨_, rfl⟩
  have hA := h.nrm
  have hB := g.nrm
  rw [ha] at n1 c2 hA
  rw [hb] at n2 c3 hB
  rw [← val_nrm l, ← val_nrm k, ha, hb]
  obtain ⟨N, hN⟩ : ∃ N, a.length = N := ⟨_, rfl⟩
  obtain ⟨M, hM⟩ : ∃ M, b.length = M := ⟨_, rfl⟩
  rw [hN] at n1 c2
  rw [hM] at n2 c3
  obtain ⟨K, hK⟩ : ∃ K, max N M = K := ⟨_, rfl⟩
  have hK1 : N ≤ K := by omega
  have hK2 : M ≤ K := by omega
  have hmax : max (N : Int) (M : Int) = (K : Int) := by omega
  clear h g hn hc hm gn gc gm hl hl1 hl2 ha hb
  obtain ⟨W, hW⟩ : ∃ W, pair w (.slice A n c) (.slice C m d) = W := ⟨_, rfl⟩
  rw [hW] at c1 c2 c3 hp
  have HW := Lib.hid hW
  have hmk := run_make_row' (P := Try.prog) 22 40 (.int .u32 0) 4 Try.underlying22 infoW rfl .i64 .i64 (K + 1) (by omega) (by omega) W
  rw [show ((K + 1 : Nat) : Int) = (K : Int) + 1 by omega] at hmk
  have hrow := Row.made W (K + 1)
  have hKK : (K : Int) ≤ 1024 := by omega
  have HN := Lib.hid hN
  have HM := Lib.hid hM
  have HA := Lib.hid hA
  have HB := Lib.hid hB
  have hgW := hp.size
  have HROW := Lib.hid hrow
  have hbl0 : Below w.heap.size w (W.alloc (.cells (madeCells #[.int .u32 0] (K + 1)) 40)) := hp.alloc hp.size _
  have HBL := Lib.hid hbl0
  have HK1 := Lib.hid hK1
  have HK2 := Lib.hid hK2
  have n1' := Lib.hid n1
  have n2' := Lib.hid n2
  clear hA hB hN hM hp hrow n1 n2 hbl0 hW hK hK1 hK2
  go_enter Try.func21, Try.ntmps21
  go_wp2_with fail
  rw [show w.alloc (.cells #[.slice A n c, .slice C m d] 22) = W from HW.out]
  refine c1.mono ?_
  rintro e w1 ⟨rfl, rfl⟩
  go_wp2_with fail
  refine c2.mono ?_
  rintro e w1 ⟨rfl, rfl⟩
  go_wp2_with fail
  refine c3.mono ?_
  rintro e w1 ⟨rfl, rfl⟩
  clear c1 c2 c3
  go_wp2
  go_loopw [26, 7] (fun i v wr => ∃ (q : Nat) (S : List Nat) (r : Nat), i = .int .i64 q ∧ v = .int .u32 (r : Nat) ∧ q ≤ K + 1 ∧ Hid (Row wr W.heap.size S) ∧ Hid (SumT a b q S r) ∧ Hid (S.length = K + 1) ∧ Below w.heap.size w wr) (fun i _ _ => K + 1 - (intOf i).toNat)
  case atStart => exact ⟨0, _, 0, rfl, rfl, Nat.zero_le _, HROW, Lib.hid (SumT.start a b _ (Ws.zeros _)), Lib.hid List.length_replicate, HBL.out⟩
  case round =>
    obtain ⟨q, S, r, rfl, rfl, hq, HR, HT, HSL, hbw⟩ := hrel
    by_cases hlt : q < K + 1
    · have hx := HA.out.1.getD q
      have hy := HB.out.1.getD q
      have hr := HT.out.low
      have hcell := HR.out.cell q (by rw [HSL.out]; exact hlt)
      have hfz := HR.out.frozen q
      obtain ⟨t, ht⟩ : ∃ t, sumC a b q r = t := ⟨_, rfl⟩
      have htl := sumC_lt (k := q) HA.out.1 HB.out.1 hr
      rw [ht] at htl
      have C1 := Lib.hid (word_nat A N N q a w.heap.size wr HN.out (by have := n1'.out; omega) (HA.out.below hbw))
      have C2 := Lib.hid (word_nat C M M q b w.heap.size wr HM.out (by have := n2'.out; omega) (HB.out.below hbw))
      have c3 := add32_any (a.getD q 0) (b.getD q 0) r wr hx hy (by omega)
      rw [show a.getD q 0 + b.getD q 0 + r = t from ht] at c3
      have C3 := Lib.hid c3
      have HSET := Lib.hid (HR.out.set q (t % 4294967296))
      have HNX := Lib.hid (show SumT a b (q + 1) (S.set q (t % 4294967296)) (t / 4294967296) by
        rw [← ht]
        refine HT.out.next HA.out.1 HB.out.1 (HT.out.ws.set (by omega)) ?_ ?_
        · exact take_congr q (by rw [List.length_set, HSL.out]; omega) (by rw [HSL.out]; omega) (fun j hj => getD_set_ne (by omega))
        · exact getD_set_eq (by rw [HSL.out]; exact hlt))
      have HSL2 := Lib.hid (show (S.set q (t % 4294967296)).length = K + 1 by rw [List.length_set]; exact HSL.out)
      have hq1 : (q : Int) < (K : Int) + 1 := by omega
      clear hx hy hr ht htl c3
      go_wp2_with fail
      refine C1.out.mono ?_
      rintro e w1 ⟨rfl, rfl⟩
      go_wp2_with fail
      refine C2.out.mono ?_
      rintro e w1 ⟨rfl, rfl⟩
      go_wp2_with fail
      refine C3.out.mono ?_
      rintro e w1 ⟨rfl, rfl⟩
      clear C1 C2 C3
      go_wp2
      go_roundw
      case rel => exact ⟨q + 1, _, t / 4294967296, by go_num, by go_num, by omega, HSET, HNX, HSL2, hbw.setCell hgW _⟩
      case measure => simp [intOf]; omega
    · have hqK : q = K + 1 := by omega
      have hlt2 := HR.out.lt
      have HV := Lib.hid (show val S = val a + val b from (hqK ▸ HT.out : SumT a b (K + 1) S r).whole HA.out.1 HB.out.1 (by rw [HN.out]; exact HK1.out) (by rw [HM.out]; exact HK2.out) HSL.out)
      have C1 := Lib.hid (answer_any (some ⟨W.heap.size, 0, none⟩) (K + 1) (K + 1) S wr HSL.out (Nat.le_refl _) (by omega) ((HR.out.rw0 HT.out.ws).more hlt2))
      have hq1 : ¬ (q : Int) < (K : Int) + 1 := by omega
      clear hqK hlt2
      go_wp2_with fail
      refine C1.out.mono ?_
      rintro e w2 h
      have h2 := NatPost.from_ hbw h
      rw [HV.out] at h2
      obtain ⟨A2, n2, c2, k2, rfl, h3, h4⟩ := h2
      have H3 := Lib.hid h3
      have H4 := Lib.hid h4
      clear h h3 h4 C1
      go_wp2
      go_ret2
      exact ⟨A2, n2, c2, k2, rfl, H3.out, H4.out⟩
set_option maxHeartbeats 1000000 in
theorem add_long (A C : Option Addr) (n c m d : Nat) (l k : List Nat) (w : World) (hn : l.length = n) (hc : n ≤ c) (hm : n ≤ 35184372088832) (h : RW w w.heap.size A l)
    (gn : k.length = m) (gc : m ≤ d) (gm : m ≤ 35184372088832) (g : RW w w.heap.size C k) (hl : (lngB (val l) || lngB (val k)) = true) :
    Calls Try.prog 21 #[.slice A n c, .slice C m d] w (ErrPost 3 w) := by
  have c1 := tooTwo_any A C n c m d l k w hn hc hm h gn gc gm g
  have hp : Below w.heap.size w (pair w (.slice A n c) (.slice C m d)) := (Below.refl _ _).alloc (Nat.le_refl _) _
  rw [hl] at c1
  have HP := Lib.hid hp
  clear h g hn hc hm gn gc gm hl hp
  go_enter Try.func21, Try.ntmps21
  go_wp2_with fail
  refine c1.mono ?_
  rintro e w1 ⟨rfl, rfl⟩
  go_wp2
  go_ret2
  exact ⟨rfl, HP.out⟩
/-- What Add tells. -/
def AddP (v u : Nat) (w : World) (e : Ending) (w' : World) : Prop := if (lngB v || lngB u) = true then ErrPost 3 w e w' else NatPost (v + u) w e w'
theorem add_any (A C : Option Addr) (n c m d : Nat) (l k : List Nat) (w : World) (hn : l.length = n) (hc : n ≤ c) (hm : n ≤ 35184372088832) (h : RW w w.heap.size A l)
    (gn : k.length = m) (gc : m ≤ d) (gm : m ≤ 35184372088832) (g : RW w w.heap.size C k) :
    Calls Try.prog 21 #[.slice A n c, .slice C m d] w (AddP (val l) (val k) w) := by
  cases hl : (lngB (val l) || lngB (val k))
  · exact (add_ok A C n c m d l k w hn hc hm h gn gc gm g hl).mono (fun e w' x => by unfold AddP; rw [if_neg (by rw [hl]; simp)]; exact x)
  · exact (add_long A C n c m d l k w hn hc hm h gn gc gm g hl).mono (fun e w' x => by unfold AddP; rw [if_pos hl]; exact x)
end Go.Proofs.Ytclggnaljijjoaa
