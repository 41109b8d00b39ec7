/-
  Contracts of Cmp of the program and of the reference.
-/
import Derived.Test.YtclggnaljijjoaaBits
import Derived.Test.YtclggnaljijjoaaPlain
namespace Go.Proofs.Ytclggnaljijjoaa
open Go.RowKit
theorem quiet_eq {P : Program} {f : FuncId} {args : Array Value} {w : World} {n : Nat} {v : Value}
    (h : Calls P f args (w.drewN n) fun e w' => e = .returned v ∧ w.drewN n = w') : Calls P f args (w.drewN n) fun e w'' => e = .returned v ∧ ∃ m, w'' = w.drewN m :=
  h.mono fun _ _ ⟨he, hm⟩ => ⟨he, n, hm.symm⟩
theorem quiet_more {P : Program} {f : FuncId} {args : Array Value} {w : World} {a n : Nat} {v : Value}
    (h : Calls P f args (w.drewN (a + n)) fun e w' => e = .returned v ∧ w.drewN (a + n) = w') : Calls P f args (w.drewN (a + n)) fun e w'' => e = .returned v ∧ ∃ m, w'' = w.drewN (a + m) :=
  h.mono fun _ _ ⟨he, hm⟩ => ⟨he, n, hm.symm⟩
theorem drew3 (w : World) (a b c : Nat) : ((w.drewN a).drewN b).drewN c = w.drewN (a + b + c) := by rw [World.drewN_drewN, World.drewN_drewN, Nat.add_assoc]
/-- The order of two naturals: -1, 0 or 1. -/
def ord (l m : List Nat) : Int := sgn (val l) (val m)
theorem ord_lt {l m : List Nat} (h : val l < val m) : ord l m = -1 := by unfold ord sgn; rw [if_pos (by omega)]
theorem ord_gt {l m : List Nat} (h : val m < val l) : ord l m = 1 := by unfold ord sgn; rw [if_neg (by omega), if_pos (by omega)]
theorem ord_eq {l m : List Nat} (h : val l = val m) : ord l m = 0 := by unfold ord sgn; rw [if_neg (by omega), if_neg (by omega)]
theorem ord_at {l m : List Nat} (hl : Ws l) (hm : Ws m) (i : Nat) (h : ∀ j, i < j → l.getD j 0 = m.getD j 0) (hne : l.getD i 0 ≠ m.getD i 0) : ord l m = sgn (l.getD i 0 : Nat) (m.getD i 0 : Nat) := by
  rcases Nat.lt_or_gt_of_ne hne with h1 | h1
  · rw [ord_lt (cmp_at i l m hl hm h h1)]; unfold sgn; rw [if_pos (by omega)]
  · rw [ord_gt (cmp_at i m l hm hl (fun j hj => (h j hj).symm) h1)]; unfold sgn; rw [if_neg (by omega), if_pos (by omega)]
theorem ord_nrm (l m : List Nat) : ord (nrm l) (nrm m) = ord l m := by unfold ord; rw [val_nrm, val_nrm]
theorem ord_len {l m : List Nat} (hl : Ws l) (hm : Ws m) (h : (nrm l).length ≠ (nrm m).length) : ord l m = sgn ((nrm l).length : Nat) ((nrm m).length : Nat) := by
  rcases Nat.lt_or_gt_of_ne h with h1 | h1
  · rw [ord_lt (cmp_len hl h1)]; unfold sgn; rw [if_pos (by omega)]
  · rw [ord_gt (cmp_len hm h1)]; unfold sgn; rw [if_neg (by omega), if_pos (by omega)]
set_option maxHeartbeats 2000000 in
theorem cmp_any (A C : Option Addr) (n c m d : Nat) (l k : List Nat) (B D : Nat) (w : World) (hn : l.length = n) (hc : n ≤ c) (hm : n ≤ 35184372088832) (h : RW w B A l)
    (gn : k.length = m) (gc : m ≤ d) (gm : m ≤ 35184372088832) (g : RW w D C k) :
    Calls Try.prog 16 #[.slice A n c, .slice C m d] w fun e w' => e = .returned (.int .i64 (ord l k)) ∧ ∃ j, w' = w.drewN j := by
  have c1 := cut_any A n c l B w hn hc hm h
  have c2 := cut_any C m d k D w gn gc gm g
  have hle := nrm_len l
  have gle := nrm_len k
  by_cases hlen : (nrm l).length = (nrm k).length
  · obtain ⟨N, hN⟩ : ∃ N, (nrm l).length = N := ⟨_, rfl⟩
    rw [← hlen, hN] at c2
    rw [hN] at c1
    have hN1 : (N : Int) ≤ 35184372088832 := by omega
    have HL := Lib.hid hN
    have HK := Lib.hid (hlen ▸ hN : (nrm k).length = N)
    have HR := Lib.hid h.nrm
    have GR := Lib.hid g.nrm
    rw [← ord_nrm]
    clear hn hc hm h gn gc gm g hle gle hlen hN
    go_enter Try.func16, Try.ntmps16
    go_wp2_with fail
    refine c1.mono ?_
    rintro e w' ⟨rfl, rfl⟩
    go_wp2_with fail
    refine c2.mono ?_
    rintro e w' ⟨rfl, rfl⟩
    go_wp2
    go_loopw [5] (fun i wr => ∃ q : Nat, i = .int .i64 ((q : Int) - 1) ∧ q ≤ N ∧ Hid (∀ j, q ≤ j → (nrm l).getD j 0 = (nrm k).getD j 0) ∧ ∃ j, wr = w.drewN j) (fun i _ => (intOf i + 1).toNat)
    case atStart => exact ⟨N, rfl, Nat.le_refl _, Lib.hid (fun j hj => by rw [getD_none (by rw [HL.out]; exact hj), getD_none (by rw [HK.out]; exact hj)]), 0, rfl⟩
    case round =>
      obtain ⟨q, rfl, hq, HQ, j, rfl⟩ := hrel
      by_cases h0 : q = 0
      · have HE := Lib.hid (show ord (nrm l) (nrm k) = 0 from ord_eq (val_eq (fun j => HQ.out j (by omega))))
        subst h0
        go_wp2
        go_ret
        exact ⟨ret_i64 (by rw [HE.out]), _, rfl⟩
      · obtain ⟨i, rfl⟩ : ∃ i, q = i + 1 := ⟨q - 1, by omega⟩
        obtain ⟨a, o, rfl, _, ha⟩ := HR.out.2 (by rw [HL.out]; omega)
        obtain ⟨b, p, rfl, _, hb⟩ := GR.out.2 (by rw [HK.out]; omega)
        have d1 := ha i _ (getD_some (by rw [HL.out]; omega))
        have d2 := hb i _ (getD_some (by rw [HK.out]; omega))
        by_cases hne : (nrm l).getD i 0 = (nrm k).getD i 0
        · obtain ⟨u, hu⟩ : ∃ u, (nrm l).getD i 0 = u := ⟨_, rfl⟩
          rw [← hne] at d2
          rw [hu] at d1 d2
          have HQ2 := Lib.hid (show ∀ j, i ≤ j → (nrm l).getD j 0 = (nrm k).getD j 0 from fun j hj => by
            by_cases e : j = i
            · rw [e]; exact hne
            · exact HQ.out j (by omega))
          have b1 : (0 : Int) ≤ (i : Int) := by omega
          have b2 : (i : Int) < (N : Int) := by omega
          clear hu hne ha hb HR GR
          go_wp2
          go_quiet (fail)
          go_wp2
          go_roundw
          case rel => exact ⟨i, by go_num, by omega, HQ2, _, rfl⟩
          case measure => simp [intOf]
        · have HE := Lib.hid (ord_at HR.out.1 GR.out.1 i (fun j hj => HQ.out j (by omega)) hne)
          obtain ⟨u, hu⟩ : ∃ u, (nrm l).getD i 0 = u := ⟨_, rfl⟩
          obtain ⟨v, hv⟩ : ∃ v, (nrm k).getD i 0 = v := ⟨_, rfl⟩
          rw [hu, hv] at HE
          rw [hu] at d1 hne
          rw [hv] at d2 hne
          have b1 : (0 : Int) ≤ (i : Int) := by omega
          have b2 : (i : Int) < (N : Int) := by omega
          have b3 : ((u : Int) == (v : Int)) = false := by simp; omega
          have HNE := Lib.hid hne
          clear hu hv ha hb HR GR hne
          go_wp2
          go_quiet (fail)
          go_wp2
          go_quiet ((go_at_call 37; exact quiet_more (cmp_u32_any _ _ _)))
          go_wp2
          go_ret
          exact ⟨ret_i64 (by rw [HE.out]), _, drew3 _ _ _ _⟩
  · have HE := Lib.hid (ord_len h.1 g.1 hlen)
    obtain ⟨N, hN⟩ : ∃ N, (nrm l).length = N := ⟨_, rfl⟩
    obtain ⟨M, hM⟩ : ∃ M, (nrm k).length = M := ⟨_, rfl⟩
    rw [hN] at c1 hlen
    rw [hM] at c2 hlen
    rw [hN, hM] at HE
    have hne : ¬ (N : Int) = (M : Int) := by omega
    clear hn hc hm h gn gc gm g hle gle hlen hN hM
    go_enter Try.func16, Try.ntmps16
    go_wp2_with fail
    refine c1.mono ?_
    rintro e w' ⟨rfl, rfl⟩
    go_wp2_with fail
    refine c2.mono ?_
    rintro e w' ⟨rfl, rfl⟩
    go_wp2_with (go_at_call 36; refine (cmp_int_any _ _ _).mono ?_; rintro e w' ⟨rfl, rfl⟩)
    go_ret
    exact ⟨ret_i64 (by rw [HE.out]), 0, rfl⟩
set_option maxRecDepth 100000 in
set_option maxHeartbeats 2000000 in
theorem rcmp_any (A C : Option Addr) (n c m d : Nat) (l k : List Nat) (B D : Nat) (w : World) (hn : l.length = n) (hm : n ≤ 35184372088832) (h : RW w B A l)
    (gn : k.length = m) (gm : m ≤ 35184372088832) (g : RW w D C k) :
    Calls Try.prog 17 #[.slice A n c, .slice C m d] w fun e w' => e = .returned (.int .i64 (ord l k)) ∧ w = w' := by
  have c1 := fun i => rword_any A n c i l B w hn hm h
  have c2 := fun i => rword_any C m d i k D w gn gm g
  have body : ∀ N : Nat, (n : Int) ≤ N → (m : Int) ≤ N → (N : Int) ≤ 35184372088832 → (((n : Int) < (m : Int) ∧ N = m) ∨ (¬ (n : Int) < (m : Int) ∧ N = n)) →
      Calls Try.prog 17 #[.slice A n c, .slice C m d] w fun e w' => e = .returned (.int .i64 (ord l k)) ∧ w = w' := by
    intro N h1 h2 h3 h4
    have HS := Lib.hid (show ∀ j, N ≤ j → l.getD j 0 = k.getD j 0 from fun j hj => by rw [getD_none (by omega), getD_none (by omega)])
    have HL := Lib.hid h.1
    have HK := Lib.hid g.1
    have C1 := Lib.hid c1
    have C2 := Lib.hid c2
    clear hn hm h gn gm g c1 c2 h1 h2
    rcases h4 with ⟨h4, rfl⟩ | ⟨h4, rfl⟩
    all_goals
      go_enter Try.func17, Try.ntmps17
      go_wp2
      go_loop [6] (fun i => ∃ q : Nat, i = .int .i64 ((q : Int) - 1) ∧ (q : Int) ≤ 35184372088832 ∧ Hid (∀ j, q ≤ j → l.getD j 0 = k.getD j 0)) (fun i => (intOf i + 1).toNat)
      case atStart => exact ⟨_, rfl, h3, HS⟩
      case round =>
        obtain ⟨q, rfl, hq, HQ⟩ := hrel
        by_cases h0 : q = 0
        · have HE := Lib.hid (show ord l k = 0 from ord_eq (val_eq (fun j => HQ.out j (by omega))))
          subst h0
          go_wp2
          go_ret
          exact ⟨ret_i64 (by rw [HE.out]), rfl⟩
        · obtain ⟨i, rfl⟩ : ∃ i, q = i + 1 := ⟨q - 1, by omega⟩
          have d1 := C1.out i
          have d2 := C2.out i
          by_cases hne : l.getD i 0 = k.getD i 0
          · obtain ⟨u, hu⟩ : ∃ u, l.getD i 0 = u := ⟨_, rfl⟩
            rw [← hne] at d2
            rw [hu] at d1 d2
            have HQ2 := Lib.hid (show ∀ j, i ≤ j → l.getD j 0 = k.getD j 0 from fun j hj => by
              by_cases e : j = i
              · rw [e]; exact hne
              · exact HQ.out j (by omega))
            clear hu hne
            go_wp2_with fail
            refine d1.mono ?_
            rintro e w' ⟨rfl, rfl⟩
            go_wp2_with fail
            refine d2.mono ?_
            rintro e w' ⟨rfl, rfl⟩
            go_wp2_with fail
            refine d1.mono ?_
            rintro e w' ⟨rfl, rfl⟩
            go_wp2_with fail
            refine d2.mono ?_
            rintro e w' ⟨rfl, rfl⟩
            go_wp2
            go_round
            case rel => exact ⟨i, by go_num, by omega, HQ2⟩
            case measure => simp [intOf]
          · rcases Nat.lt_or_gt_of_ne hne with hlt | hlt
            · have HE := Lib.hid (ord_lt (cmp_at i l k HL.out HK.out (fun j hj => HQ.out j (by omega)) hlt))
              obtain ⟨u, hu⟩ : ∃ u, l.getD i 0 = u := ⟨_, rfl⟩
              obtain ⟨v, hv⟩ : ∃ v, k.getD i 0 = v := ⟨_, rfl⟩
              rw [hu] at d1 hlt
              rw [hv] at d2 hlt
              have hl1 : (u : Int) < (v : Int) := by omega
              clear hu hv hne hlt
              go_wp2_with fail
              refine d1.mono ?_
              rintro e w' ⟨rfl, rfl⟩
              go_wp2_with fail
              refine d2.mono ?_
              rintro e w' ⟨rfl, rfl⟩
              go_wp2
              go_ret
              exact ⟨ret_i64 (by rw [HE.out]), rfl⟩
            · have HE := Lib.hid (ord_gt (cmp_at i k l HK.out HL.out (fun j hj => (HQ.out j (by omega)).symm) hlt))
              obtain ⟨u, hu⟩ : ∃ u, l.getD i 0 = u := ⟨_, rfl⟩
              obtain ⟨v, hv⟩ : ∃ v, k.getD i 0 = v := ⟨_, rfl⟩
              rw [hu] at d1 hlt
              rw [hv] at d2 hlt
              have HL1 := Lib.hid (show (v : Int) < (u : Int) by omega)
              have hl2 : decide (u < v) = false := by simp; omega
              clear hu hv hne hlt
              go_wp2_with fail
              refine d1.mono ?_
              rintro e w' ⟨rfl, rfl⟩
              go_wp2_with fail
              refine d2.mono ?_
              rintro e w' ⟨rfl, rfl⟩
              go_wp2_with fail
              have hl1 := HL1.out
              clear hl2
              refine d1.mono ?_
              rintro e w' ⟨rfl, rfl⟩
              go_wp2_with fail
              refine d2.mono ?_
              rintro e w' ⟨rfl, rfl⟩
              go_wp2
              go_ret
              exact ⟨ret_i64 (by rw [HE.out]), rfl⟩
  rcases Nat.lt_or_ge n m with h4 | h4
  · exact body m (by omega) (by omega) (by omega) (.inl ⟨by omega, rfl⟩)
  · exact body n (by omega) (by omega) (by omega) (.inr ⟨by omega, rfl⟩)
end Go.Proofs.Ytclggnaljijjoaa
