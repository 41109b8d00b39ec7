/-
  Change again, Change by nothing, and what stays. No walk in it.
-/
import Derived.Test.YtlkgijinckhkkaaF9
namespace Go.Proofs.Ytlkgijinckhkkaa
open Go.RowKit
theorem chg_sort {p q : Prp} (hp : fullB p = true) : hasB (chgP p q).ph 6 = (if (hasB q.ph 6 || hasB q.ph 9) = true then hasB q.ph 6 else hasB p.ph 6) := by
  obtain ⟨-, kp⟩ := full_parts hp
  rw [chg_eq]
  show hasB (kindP p q).ph 6 = _
  rcases kind_cases p q with ⟨⟨h1, h2⟩, e⟩ | ⟨⟨h1, h2, h3⟩, e⟩ | ⟨h, e⟩
  · rw [e, h1]
    exact has54.2.1
  · rw [e, h1, h2]
    exact has57.2.1
  · rw [e]
    rcases h with ⟨h1, h2⟩ | ⟨h1, h2, h3⟩ | ⟨h1, h2⟩
    · rw [h1, h2]; rfl
    · rw [h1, h2, h3]; rfl
    · rw [h1, h2]; rfl
theorem ne_self (b : Bool) : (b != b) = false := by cases b <;> rfl
theorem kind_again {p q : Prp} (hp : fullB p = true) : kindP (chgP p q) q = chgP p q := by
  have h := chg_sort (q := q) hp
  have hc : ((hasB q.ph 6 || hasB q.ph 9) && (hasB q.ph 6 != hasB (chgP p q).ph 6)) = false := by
    rw [h]
    by_cases k : (hasB q.ph 6 || hasB q.ph 9) = true
    · rw [if_pos k, ne_self, Bool.and_false]
    · rw [Bool.not_eq_true] at k
      rw [k, Bool.false_and]
  unfold kindP
  rw [if_neg (by rw [hc]; simp)]
theorem chg_again {p q : Prp} (hp : fullB p = true) : chgP (chgP p q) q = chgP p q := by
  rw [chg_eq (chgP p q) q, kind_again hp]
  have e := chg_eq p q
  generalize kindP p q = r at e
  rw [e]
  cases hasB q.ph 1 <;> cases hasB q.ph 2 <;> cases hasB q.ph 4 <;> cases hasB q.ph 8 <;> cases hasB q.ph 16 <;> cases hasB q.ph 32 <;> rfl
theorem ok_again {p q : Prp} (hp : fullB p = true) (hq : mayP q = true) : okP (chgP p q) q = true := by
  have mq := may_parts hq
  have hs := chg_sort (q := q) hp
  have e := chg_eq p q
  have e1 : hasB q.ph 1 = true → (chgP p q).pv = q.pv := fun h => by rw [e]; exact if_pos h
  have e2 : hasB q.ph 2 = true → (chgP p q).pg = q.pg := fun h => by rw [e]; exact if_pos h
  have e4 : hasB q.ph 4 = true → (chgP p q).pt = q.pt := fun h => by rw [e]; exact if_pos h
  have e8 : hasB q.ph 8 = true → (chgP p q).pw = q.pw := fun h => by rw [e]; exact if_pos h
  have e16 : hasB q.ph 16 = true → (chgP p q).pe = q.pe := fun h => by rw [e]; exact if_pos h
  have e32 : hasB q.ph 32 = true → (chgP p q).pc = q.pc := fun h => by rw [e]; exact if_pos h
  generalize chgP p q = a at *
  clear e
  unfold okP
  cases hc : a.pc
  · rw [Bool.false_or]
    have c1 : q.pc = false := by
      cases h : hasB q.ph 32
      · exact mq.n32 h
      · rw [← e32 h]; exact hc
    have c2 : (hasB q.ph 16 && q.pe != a.pe) = false := by
      cases h : hasB q.ph 16
      · rfl
      · rw [e16 h, ne_self]; rfl
    unfold fixedB
    rw [if_neg (by rw [c1, c2]; simp)]
    by_cases hg : (!hasB q.ph 6 && !hasB q.ph 9) = true
    · rw [if_pos hg]
    · rw [if_neg hg]
      have hk : (hasB q.ph 6 || hasB q.ph 9) = true := by
        cases h1 : hasB q.ph 6
        · cases h2 : hasB q.ph 9
          · exact absurd (by rw [h1, h2]; rfl) hg
          · rfl
        · rfl
      rw [if_pos hk] at hs
      rw [if_neg (by rw [hs, ne_self]; simp)]
      by_cases h6 : hasB q.ph 6 = true
      · rw [if_pos h6]
        have d2 : (!hasB q.ph 2 || sameW q.pg a.pg) = true := by
          cases h : hasB q.ph 2
          · rfl
          · rw [e2 h, same_self]; rfl
        have d4 : (!hasB q.ph 4 || sameW q.pt a.pt) = true := by
          cases h : hasB q.ph 4
          · rfl
          · rw [e4 h, same_self]; rfl
        rw [d2, d4]; rfl
      · rw [if_neg h6]
        have d1 : (!hasB q.ph 1 || sameW q.pv a.pv) = true := by
          cases h : hasB q.ph 1
          · rfl
          · rw [e1 h, same_self]; rfl
        rw [d1, Bool.and_true]
        cases h : hasB q.ph 8
        · rw [mq.n8 h]; simp
        · rw [e8 h]; cases q.pw <;> rfl
  · rfl
theorem zPrp_may : mayP zPrp = true := by decide +kernel
theorem chg_none (a : Prp) : chgP a zPrp = a := by
  obtain ⟨t9, t6, t1, t2, t4, t8, t16, t32⟩ := has0
  have hk : kindP a zPrp = a := by
    unfold kindP
    rw [show zPrp.ph = 0 from rfl, t6, t9]
    rfl
  rw [chg_eq, hk, show zPrp.ph = 0 from rfl, t1, t2, t4, t8, t16, t32]
  rfl
theorem ok_none (a : Prp) : okP a zPrp = true := by
  obtain ⟨t9, t6, t1, t2, t4, t8, t16, t32⟩ := has0
  unfold okP fixedB
  rw [show zPrp.ph = 0 from rfl, t6, t9, t16]
  cases a.pc <;> rfl
theorem same_bits {x y : Nat} (hx : cn x = x) (hy : cn y = y) (lx : x < 18446744073709551616) (ly : y < 18446744073709551616) (h : sameV x y = true) : x = y := by
  unfold sameV at h
  rw [Bool.or_eq_true, Bool.and_eq_true, Bool.and_eq_true, beq_iff_eq] at h
  rcases h with ⟨h1, h2⟩ | ⟨h1, h2⟩
  · unfold cn at hx hy
    rw [if_pos h1] at hx
    rw [if_pos h2] at hy
    rw [← hx, ← hy]
  · rcases order_le x with ⟨g, _⟩ | ⟨g, _⟩
    · rw [(oeq_none (.inl g)).1] at h1; cases h1
    · rcases order_le y with ⟨k, _⟩ | ⟨k, _⟩
      · rw [(oeq_none (.inr k)).1] at h1; cases h1
      · rw [oeq_fin g k, decide_eq_true_iff] at h1
        unfold frank at h1
        rw [h2] at h1
        have hr : rung x = rung y := by
          cases hn : fneg y <;> rw [hn] at h1 <;> simp at h1 <;> omega
        unfold fneg at h2
        unfold rung at hr
        have a1 : x / 9223372036854775808 < 2 := by omega
        have a2 : y / 9223372036854775808 < 2 := by omega
        have a3 : x / 9223372036854775808 % 2 = y / 9223372036854775808 % 2 := by
          have b1 : x / 9223372036854775808 % 2 = 0 ∨ x / 9223372036854775808 % 2 = 1 := by omega
          have b2 : y / 9223372036854775808 % 2 = 0 ∨ y / 9223372036854775808 % 2 = 1 := by omega
          rcases b1 with b1 | b1 <;> rcases b2 with b2 | b2 <;> rw [b1, b2] at h2 <;> simp_all
        omega
theorem may_cn {x : Val} (h : mayB x = true) : cn x.vn = x.vn := by
  rcases may_cases h with rfl | rfl | ⟨b, rfl⟩ | ⟨n, hn, rfl⟩ | ⟨s, _, rfl⟩ | ⟨o, _, rfl⟩
  · decide +kernel
  · decide +kernel
  · show cn 0 = 0; decide +kernel
  · exact hn
  · show cn 0 = 0; decide +kernel
  · show cn 0 = 0; decide +kernel
theorem same_val {x y : Val} (mx : mayB x = true) (my : mayB y = true) (lx : x.vn < 18446744073709551616) (ly : y.vn < 18446744073709551616) (h : sameW x y = true) : bitsV x y = true := by
  unfold sameW at h
  unfold bitsV
  rw [Bool.and_eq_true] at h ⊢
  exact ⟨h.1, beq_iff_eq.2 (same_bits (may_cn mx) (may_cn my) lx ly h.2)⟩
theorem bits_self (v : Val) : bitsV v v = true := by
  unfold bitsV
  rw [alike_self]
  simp
theorem beq_self' (b : Bool) : (b == b) = true := by cases b <;> rfl
theorem sameP_self (p : Prp) : samePB p p = true := by
  unfold samePB
  rw [bits_self, bits_self, bits_self, beq_self', beq_self', beq_self']
  simp
structure NumP (p : Prp) : Prop where
  v : p.pv.vn < 18446744073709551616
  g : p.pg.vn < 18446744073709551616
  t : p.pt.vn < 18446744073709551616
/-- What is neither configurable nor writable stays. -/
theorem chg_fixed {p q : Prp} (hp : fullB p = true) (hq : mayP q = true) (np : NumP p) (nq : NumP q) (ho : okP p q = true) (hc : p.pc = false) (hw : p.pw = false) : samePB (chgP p q) p = true := by
  have mq := may_parts hq
  obtain ⟨mp, kp⟩ := full_parts hp
  obtain ⟨f9, f6, -, -⟩ := mq.facts
  have ad := mq.ad
  unfold okP at ho
  rw [hc, Bool.false_or] at ho
  unfold fixedB at ho
  have c1 : q.pc = false ∧ (hasB q.ph 16 && q.pe != p.pe) = false := by
    by_cases h : (q.pc || (hasB q.ph 16 && q.pe != p.pe)) = true
    · rw [if_pos h] at ho; cases ho
    · rw [Bool.not_eq_true, Bool.or_eq_false_iff] at h
      exact h
  rw [if_neg (by rw [c1.1, c1.2]; simp)] at ho
  have ec : (if hasB q.ph 32 = true then q.pc else p.pc) = p.pc := by
    split
    · rw [c1.1, hc]
    · rfl
  have ee : (if hasB q.ph 16 = true then q.pe else p.pe) = p.pe := by
    split
    · rename_i h
      have := c1.2
      rw [h, Bool.true_and] at this
      cases hx : q.pe <;> cases hy : p.pe <;> rw [hx, hy] at this <;> first | rfl | cases this
    · rfl
  by_cases hg : (!hasB q.ph 6 && !hasB q.ph 9) = true
  · rw [Bool.and_eq_true, Bool.not_eq_true', Bool.not_eq_true'] at hg
    have h2 := f6
    have h1 := f9
    rw [hg.1, eq_comm, Bool.or_eq_false_iff] at h2
    rw [hg.2, eq_comm, Bool.or_eq_false_iff] at h1
    have hk : kindP p q = p := by unfold kindP; rw [hg.1, hg.2]; rfl
    rw [chg_eq, hk, h1.1, h1.2, h2.1, h2.2, ec, ee]
    exact sameP_self p
  · rw [if_neg hg] at ho
    have hsrt : hasB q.ph 6 = hasB p.ph 6 := by
      by_cases h : (hasB q.ph 6 != hasB p.ph 6) = true
      · rw [if_pos h] at ho; cases ho
      · cases hx : hasB q.ph 6 <;> cases hy : hasB p.ph 6 <;> rw [hx, hy] at h <;> first | rfl | exact absurd rfl h
    rw [if_neg (by rw [hsrt, ne_self]; simp)] at ho
    have hk : kindP p q = p := by unfold kindP; rw [hsrt, ne_self, Bool.and_false]; rfl
    rw [chg_eq, hk, ec, ee]
    unfold samePB
    by_cases h6 : hasB q.ph 6 = true
    · rw [if_pos h6, Bool.and_eq_true] at ho
      rw [h6, Bool.and_true] at ad
      have h1 := f9
      rw [ad, eq_comm, Bool.or_eq_false_iff] at h1
      have d2 : bitsV (if hasB q.ph 2 = true then q.pg else p.pg) p.pg = true := by
        split
        · rename_i h
          have := ho.1
          rw [h] at this
          exact same_val (callee_may mq.g) (callee_may mp.g) nq.g np.g (by simpa using this)
        · exact bits_self _
      have d4 : bitsV (if hasB q.ph 4 = true then q.pt else p.pt) p.pt = true := by
        split
        · rename_i h
          have := ho.2
          rw [h] at this
          exact same_val (callee_may mq.t) (callee_may mp.t) nq.t np.t (by simpa using this)
        · exact bits_self _
      dsimp only
      rw [d2, d4, h1.1, h1.2, if_neg (by simp), if_neg (by simp), bits_self, beq_self', beq_self', beq_self']
      simp
    · rw [if_neg h6, hw, Bool.false_or, Bool.and_eq_true, Bool.not_eq_true'] at ho
      rw [Bool.not_eq_true] at h6
      have h2 := f6
      rw [h6, eq_comm, Bool.or_eq_false_iff] at h2
      have d1 : bitsV (if hasB q.ph 1 = true then q.pv else p.pv) p.pv = true := by
        split
        · rename_i h
          have := ho.2
          rw [h] at this
          exact same_val mq.v mp.v nq.v np.v (by simpa using this)
        · exact bits_self _
      have d8 : (if hasB q.ph 8 = true then q.pw else p.pw) = p.pw := by
        split
        · rw [ho.1, hw]
        · rfl
      dsimp only
      rw [d1, d8, h2.1, h2.2, if_neg (by simp), if_neg (by simp), bits_self, bits_self, beq_self', beq_self', beq_self']
      simp
end Go.Proofs.Ytlkgijinckhkkaa
