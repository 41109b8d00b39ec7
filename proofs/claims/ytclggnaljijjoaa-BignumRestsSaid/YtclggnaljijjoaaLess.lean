/-
  Contracts of Less and Sub of the reference. Contract of Less of the reference, once more: the difference lies in a row of the call's own.
-/
import Derived.Test.YtclggnaljijjoaaSub
namespace Go.Proofs.Ytclggnaljijjoaa
open Go.RowKit
/-- The next word of a difference of 64 bits, and its highest bit. -/
theorem less_word (x y r : Nat) (hx : x < 4294967296) (hy : y < 4294967296) (hr : r ≤ 1) :
    (((x : Int) - (y : Int) - (r : Int)) % 18446744073709551616) % 4294967296 = (((x + 4294967296 * 2 - y - r) % 4294967296 : Nat) : Int) ∧ (((x : Int) - (y : Int) - (r : Int)) % 18446744073709551616) / 9223372036854775808 = ((if x < y + r then 1 else 0 : Nat) : Int) := by
  constructor
  · omega
  · split <;> omega
set_option maxRecDepth 100000 in
set_option maxHeartbeats 1000000 in
theorem less_any (A C : Option Addr) (n c m d : Nat) (l k : List Nat) (w : World) (hn : l.length = n) (hm : n ≤ 35184372087808) (h : RW w w.heap.size A l)
    (gn : k.length = m) (gm : m ≤ n) (g : RW w w.heap.size C k) (hle : val k ≤ val l) :
    Calls Try.prog 48 #[.slice A n c, .slice C m d] w (SlPost (wds (val l - val k)) w) := by
  obtain ⟨i0, hi, hz0, hz1, hz2⟩ := info_parts infoW
  have C1 := Lib.hid (fun W (hb : Below w.heap.size w W) i => rword_any A n c i l w.heap.size W hn (by omega) (h.below hb))
  have C2 := Lib.hid (fun W (hb : Below w.heap.size w W) i => rword_any C m d i k w.heap.size W gn (by omega) (g.below hb))
  have HL := Lib.hid h.1
  have HK := Lib.hid g.1
  have HN := Lib.hid hn
  have HM := Lib.hid gn
  have HLE := Lib.hid hle
  have HMN := Lib.hid gm
  have hn1 : (n : Int) ≤ 35184372087808 := by omega
  clear hn hm h gn gm g hle
  go_enter Try.func48, Try.ntmps48
  go_wp2
  go_loopw [5, 6, 7] (fun v cv i wr => ∃ (q : Nat) (S : List Nat) (r : Nat), i = .int .i64 q ∧ cv = .int .u64 (r : Nat) ∧ q ≤ n ∧ Hid (OwnW w.heap.size S v wr) ∧ Hid (SubT l k q S r) ∧ Hid (S.length = q) ∧ Below w.heap.size w wr) (fun _ _ i _ => n - (intOf i).toNat)
  case atStart => exact ⟨0, [], 0, rfl, rfl, Nat.zero_le _, Lib.hid (OwnW.nil _ _), Lib.hid (SubT.start l k [] Ws.nil), Lib.hid rfl, Below.refl _ _⟩
  case round =>
    obtain ⟨q, S, r, rfl, rfl, hq, HO, HT, HSL, hbw⟩ := hrel
    by_cases hlt : q < n
    · have hx := HL.out.getD q
      have hy := HK.out.getD q
      have hr := HT.out.low
      have hsl : S.length = q := HSL.out
      have D1 := Lib.hid (C1.out wr hbw q)
      have D2 := Lib.hid (C2.out wr hbw q)
      obtain ⟨e1, e2⟩ := less_word (l.getD q 0) (k.getD q 0) r hx hy hr
      obtain ⟨t, ht⟩ : ∃ t, subW l k q r = t := ⟨_, rfl⟩
      obtain ⟨r2, hr2⟩ : ∃ r2, subC l k q r = r2 := ⟨_, rfl⟩
      have htl : t < 4294967296 := by rw [← ht]; unfold subW; omega
      rw [show (l.getD q 0 + 4294967296 * 2 - k.getD q 0 - r) % 4294967296 = t from ht] at e1
      rw [show (if l.getD q 0 < k.getD q 0 + r then 1 else 0) = r2 from hr2] at e2
      have HNX := Lib.hid (show SubT l k (q + 1) (S ++ [t]) r2 by
        rw [← hr2]
        refine HT.out.next HL.out HK.out (HT.out.ws.append (Ws.cons htl Ws.nil)) ?_ ?_
        · rw [List.take_append_of_le_length (by omega)]
        · rw [ht, List.getD_eq_getElem?_getD, List.getElem?_append_right (by omega), hsl]; simp)
      obtain ⟨x, hxe⟩ : ∃ x, l.getD q 0 = x := ⟨_, rfl⟩
      obtain ⟨y, hye⟩ : ∃ y, k.getD q 0 = y := ⟨_, rfl⟩
      rw [hxe] at D1 hx e1 e2
      rw [hye] at D2 hy e1 e2
      obtain ⟨z, hz⟩ : ∃ z : Int, ((x : Int) - (y : Int) - (r : Int)) % 18446744073709551616 = z := ⟨_, rfl⟩
      rw [hz] at e1 e2
      have hz2' : IntKind.u64.wrap (IntKind.u64.wrap ((x : Int) - (y : Int)) - (r : Int)) = z := by rw [IntKind.wrap_u64, IntKind.wrap_u64]; omega
      have HSL2 := Lib.hid (show (S.length + 1) * 4 ≤ 140737488355328 ∧ S.length + 1 ≤ maxLen by unfold maxLen; omega)
      have HSL3 := Lib.hid (show (S ++ [t]).length = q + 1 by rw [List.length_append, hsl]; rfl)
      have hq1 : (q : Int) < (n : Int) := by omega
      have hzb : 0 ≤ z := by omega
      clear hx hy hr ht hr2 htl hxe hye hsl hz
      go_wp2_with fail
      refine D1.out.mono ?_
      rintro e w1 ⟨rfl, rfl⟩
      go_wp2_with fail
      refine D2.out.mono ?_
      rintro e w1 ⟨rfl, rfl⟩
      go_wp2_with (at_builtin; refine wpList_append_own _ rfl _ _ 22 rfl w.heap.size 40 i0 (.int .u32 0) 1 4 Try.underlying22 hi hz0 hz1 hz2 rfl (by decide) _ _ _ rfl (World.ownsRow.alloc (w := wr) HO.out _) ⟨wr.heap.size, 0, none⟩ 1 1 [.int .u32 (t : Nat)] rfl rfl ?c1 ?c2 ?c3 ?c4 ?c5 ?_)
      case c1 => exact (cell_one_new _ _ _)
      case c2 => simp [Value.oneCell']
      case c3 => exact HSL2.out.2
      case c4 => exact HSL2.out.1
      case c5 => have := hbw.size; simp; omega
      intro v' w2 hown hg _
      have HO2 := Lib.hid (OwnW.snoc hown)
      have hbb : Below w.heap.size w w2 := (hbw.alloc hbw.size _).grown hg (by have := hbw.size; simp; omega) (fun j hj => (World.ownsRow.lt HO.out j hj).1)
      clear hown hg
      go_wp2
      go_roundw
      case rel => exact ⟨q + 1, _, r2, by go_num, rfl, by omega, HO2, HNX, HSL3, hbb⟩
      case measure => simp [intOf]; omega
    · have hqn : q = n := by omega
      have hsl : S.length = n := by rw [← hqn]; exact HSL.out
      have hv := (hqn ▸ HT.out : SubT l k n S r).whole (by rw [HN.out]; exact Nat.le_refl _) (by rw [HM.out]; exact HMN.out) hsl HLE.out
      have HE2 := Lib.hid (show nrm S = wds (val l - val k) by rw [nrm_wds HT.out.ws, hv])
      have hq1 : ¬ (q : Int) < (n : Int) := by omega
      have ho := HO.out
      obtain ⟨A2, c2, hv2, hcc, hr2⟩ := ho.sl HT.out.ws
      rw [hsl] at hv2 hcc
      have C3 := Lib.hid (rnorm_any A2 n c2 S wr.heap.size wr hsl hcc (by omega) hr2)
      clear ho hr2 hcc hsl hqn hv
      subst hv2
      go_wp2_with fail
      refine C3.out.mono ?_
      rintro e w3 ⟨v3, rfl, ho3, hb3⟩
      rw [HE2.out] at ho3
      have HO3 := Lib.hid (ho3.sl (wds_ws _))
      clear ho3 C3
      go_wp2
      go_ret
      exact ⟨_, rfl, HO3.out, below_le hbw hb3⟩
end Go.Proofs.Ytclggnaljijjoaa
namespace Go.Proofs.Ytclggnaljijjoaa
open Go.RowKit
theorem OwnW.low {B C : Nat} {l : List Nat} {v : Value} {w : World} (h : OwnW C l v w) (hB : B ≤ C) : OwnW B l v w :=
  ⟨h.1, h.2.imp id (fun ⟨g, cap, cur, e, h1, r⟩ => ⟨g, cap, cur, e, Nat.le_trans hB h1, r⟩)⟩
/-- A call that tells n words l in a slice of memory of its own. -/
def ToldN (l : List Nat) (n : Nat) (w : World) (e : Ending) (w' : World) : Prop := ∃ A c, e = .returned (.slice A n c) ∧ (n ≤ c ∧ RW w' w'.heap.size A l ∧ ∀ ad, A = some ad → w.heap.size ≤ ad.block) ∧ Below w.heap.size w w'
theorem OwnPost.toldN {l : List Nat} {n : Nat} {w : World} {e : Ending} {w' : World} (hw : Ws l) (h : OwnPost l w e w') (hn : l.length = n) : ToldN l n w e w' := by
  obtain ⟨v, rfl, ho, hb⟩ := h
  obtain ⟨A, c, hv, hc, hr⟩ := ho.sl hw
  subst hv
  refine ⟨A, c, by rw [hn], ⟨by omega, hr, fun ad had => ?_⟩, hb⟩
  subst had
  rcases ho.2 with ⟨e, _⟩ | ⟨g, cap, cur, e, hB, _⟩
  · cases e
  · cases e; exact hB
theorem RW.other {w : World} {B g j : Nat} {A : Option Addr} {l : List Nat} (h : RW w B A l) (hA : ∀ ad, A = some ad → g < ad.block) (v : Value) : RW (w.setCell ⟨g, j, none⟩ v) B A l := ⟨h.1, fun hl => by
  obtain ⟨b, off, e, hb, hc⟩ := h.2 hl
  have hg : g < b := hA _ e
  refine ⟨b, off, e, hb, fun k u hu => ?_⟩
  rw [← hc k u hu]
  have := Below.heap_setCell w ⟨g, j, none⟩ v b (by simp; omega)
  simp [World.cell?, this]⟩
set_option maxRecDepth 100000 in
set_option maxHeartbeats 1000000 in
theorem less_own (A C : Option Addr) (n c m d : Nat) (l k : List Nat) (w : World) (hn : l.length = n) (hm : n ≤ 35184372087808) (h : RW w w.heap.size A l)
    (gn : k.length = m) (gm : m ≤ n) (g : RW w w.heap.size C k) (hle : val k ≤ val l) :
    Calls Try.prog 48 #[.slice A n c, .slice C m d] w (OwnPost (wds (val l - val k)) w) := by
  obtain ⟨i0, hi, hz0, hz1, hz2⟩ := info_parts infoW
  have C1 := Lib.hid (fun W (hb : Below w.heap.size w W) i => rword_any A n c i l w.heap.size W hn (by omega) (h.below hb))
  have C2 := Lib.hid (fun W (hb : Below w.heap.size w W) i => rword_any C m d i k w.heap.size W gn (by omega) (g.below hb))
  have HL := Lib.hid h.1
  have HK := Lib.hid g.1
  have HN := Lib.hid hn
  have HM := Lib.hid gn
  have HLE := Lib.hid hle
  have HMN := Lib.hid gm
  have hn1 : (n : Int) ≤ 35184372087808 := by omega
  clear hn hm h gn gm g hle
  go_enter Try.func48, Try.ntmps48
  go_wp2
  go_loopw [5, 6, 7] (fun v cv i wr => ∃ (q : Nat) (S : List Nat) (r : Nat), i = .int .i64 q ∧ cv = .int .u64 (r : Nat) ∧ q ≤ n ∧ Hid (OwnW w.heap.size S v wr) ∧ Hid (SubT l k q S r) ∧ Hid (S.length = q) ∧ Below w.heap.size w wr) (fun _ _ i _ => n - (intOf i).toNat)
  case atStart => exact ⟨0, [], 0, rfl, rfl, Nat.zero_le _, Lib.hid (OwnW.nil _ _), Lib.hid (SubT.start l k [] Ws.nil), Lib.hid rfl, Below.refl _ _⟩
  case round =>
    obtain ⟨q, S, r, rfl, rfl, hq, HO, HT, HSL, hbw⟩ := hrel
    by_cases hlt : q < n
    · have hx := HL.out.getD q
      have hy := HK.out.getD q
      have hr := HT.out.low
      have hsl : S.length = q := HSL.out
      have D1 := Lib.hid (C1.out wr hbw q)
      have D2 := Lib.hid (C2.out wr hbw q)
      obtain ⟨e1, e2⟩ := less_word (l.getD q 0) (k.getD q 0) r hx hy hr
      obtain ⟨t, ht⟩ : ∃ t, subW l k q r = t := ⟨_, rfl⟩
      obtain ⟨r2, hr2⟩ : ∃ r2, subC l k q r = r2 := ⟨_, rfl⟩
      have htl : t < 4294967296 := by rw [← ht]; unfold subW; omega
      rw [show (l.getD q 0 + 4294967296 * 2 - k.getD q 0 - r) % 4294967296 = t from ht] at e1
      rw [show (if l.getD q 0 < k.getD q 0 + r then 1 else 0) = r2 from hr2] at e2
      have HNX := Lib.hid (show SubT l k (q + 1) (S ++ [t]) r2 by
        rw [← hr2]
        refine HT.out.next HL.out HK.out (HT.out.ws.append (Ws.cons htl Ws.nil)) ?_ ?_
        · rw [List.take_append_of_le_length (by omega)]
        · rw [ht, List.getD_eq_getElem?_getD, List.getElem?_append_right (by omega), hsl]; simp)
      obtain ⟨x, hxe⟩ : ∃ x, l.getD q 0 = x := ⟨_, rfl⟩
      obtain ⟨y, hye⟩ : ∃ y, k.getD q 0 = y := ⟨_, rfl⟩
      rw [hxe] at D1 hx e1 e2
      rw [hye] at D2 hy e1 e2
      obtain ⟨z, hz⟩ : ∃ z : Int, ((x : Int) - (y : Int) - (r : Int)) % 18446744073709551616 = z := ⟨_, rfl⟩
      rw [hz] at e1 e2
      have hz2' : IntKind.u64.wrap (IntKind.u64.wrap ((x : Int) - (y : Int)) - (r : Int)) = z := by rw [IntKind.wrap_u64, IntKind.wrap_u64]; omega
      have HSL2 := Lib.hid (show (S.length + 1) * 4 ≤ 140737488355328 ∧ S.length + 1 ≤ maxLen by unfold maxLen; omega)
      have HSL3 := Lib.hid (show (S ++ [t]).length = q + 1 by rw [List.length_append, hsl]; rfl)
      have hq1 : (q : Int) < (n : Int) := by omega
      have hzb : 0 ≤ z := by omega
      clear hx hy hr ht hr2 htl hxe hye hsl hz
      go_wp2_with fail
      refine D1.out.mono ?_
      rintro e w1 ⟨rfl, rfl⟩
      go_wp2_with fail
      refine D2.out.mono ?_
      rintro e w1 ⟨rfl, rfl⟩
      go_wp2_with (at_builtin; refine wpList_append_own _ rfl _ _ 22 rfl w.heap.size 40 i0 (.int .u32 0) 1 4 Try.underlying22 hi hz0 hz1 hz2 rfl (by decide) _ _ _ rfl (World.ownsRow.alloc (w := wr) HO.out _) ⟨wr.heap.size, 0, none⟩ 1 1 [.int .u32 (t : Nat)] rfl rfl ?c1 ?c2 ?c3 ?c4 ?c5 ?_)
      case c1 => exact (cell_one_new _ _ _)
      case c2 => simp [Value.oneCell']
      case c3 => exact HSL2.out.2
      case c4 => exact HSL2.out.1
      case c5 => have := hbw.size; simp; omega
      intro v' w2 hown hg _
      have HO2 := Lib.hid (OwnW.snoc hown)
      have hbb : Below w.heap.size w w2 := (hbw.alloc hbw.size _).grown hg (by have := hbw.size; simp; omega) (fun j hj => (World.ownsRow.lt HO.out j hj).1)
      clear hown hg
      go_wp2
      go_roundw
      case rel => exact ⟨q + 1, _, r2, by go_num, rfl, by omega, HO2, HNX, HSL3, hbb⟩
      case measure => simp [intOf]; omega
    · have hqn : q = n := by omega
      have hsl : S.length = n := by rw [← hqn]; exact HSL.out
      have hv := (hqn ▸ HT.out : SubT l k n S r).whole (by rw [HN.out]; exact Nat.le_refl _) (by rw [HM.out]; exact HMN.out) hsl HLE.out
      have HE2 := Lib.hid (show nrm S = wds (val l - val k) by rw [nrm_wds HT.out.ws, hv])
      have hq1 : ¬ (q : Int) < (n : Int) := by omega
      have ho := HO.out
      obtain ⟨A2, c2, hv2, hcc, hr2⟩ := ho.sl HT.out.ws
      rw [hsl] at hv2 hcc
      have C3 := Lib.hid (rnorm_any A2 n c2 S wr.heap.size wr hsl hcc (by omega) hr2)
      clear ho hr2 hcc hsl hqn hv
      subst hv2
      go_wp2_with fail
      refine C3.out.mono ?_
      rintro e w3 ⟨v3, rfl, ho3, hb3⟩
      rw [HE2.out] at ho3
      have HO3 := Lib.hid (ho3.low hbw.size)
      clear ho3 C3
      go_wp2
      go_ret
      exact ⟨_, rfl, HO3.out, below_le hbw hb3⟩
end Go.Proofs.Ytclggnaljijjoaa
