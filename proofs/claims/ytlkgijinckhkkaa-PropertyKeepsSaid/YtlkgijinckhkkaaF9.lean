/-
  Descriptors that may be, full ones, and what Change makes of them: plain facts. No walk in it.
-/
import Derived.Test.YtlkgijinckhkkaaF8
namespace Go.Proofs.Ytlkgijinckhkkaa
open Go.RowKit
theorem has_fin : ∀ k : Fin 64, hasB (k.val : Int) 9 = (hasB (k.val : Int) 1 || hasB (k.val : Int) 8) ∧ hasB (k.val : Int) 6 = (hasB (k.val : Int) 2 || hasB (k.val : Int) 4) ∧
    (hasB (k.val : Int) 6 = true → hasB (k.val : Int) 9 = false → orB (orB (k.val : Int) 6) 48 = 54) ∧ (hasB (k.val : Int) 6 = false → orB (orB (k.val : Int) 9) 48 = 57) := by decide +kernel
theorem has54 : hasB 54 9 = false ∧ hasB 54 6 = true ∧ hasB 54 1 = false ∧ hasB 54 2 = true ∧ hasB 54 4 = true ∧ hasB 54 8 = false ∧ hasB 54 16 = true ∧ hasB 54 32 = true := by decide +kernel
theorem has57 : hasB 57 9 = true ∧ hasB 57 6 = false ∧ hasB 57 1 = true ∧ hasB 57 2 = false ∧ hasB 57 4 = false ∧ hasB 57 8 = true ∧ hasB 57 16 = true ∧ hasB 57 32 = true := by decide +kernel
theorem has0 : hasB 0 9 = false ∧ hasB 0 6 = false ∧ hasB 0 1 = false ∧ hasB 0 2 = false ∧ hasB 0 4 = false ∧ hasB 0 8 = false ∧ hasB 0 16 = false ∧ hasB 0 32 = false := by decide +kernel
theorem zero_val {v : Val} (h : zeroB v = true) : v = zVal := by
  unfold zeroB at h
  rw [Bool.and_eq_true, beq_iff_eq] at h
  rcases may_cases h.2 with rfl | rfl | ⟨b, rfl⟩ | ⟨n, _, rfl⟩ | ⟨s, _, rfl⟩ | ⟨o, _, rfl⟩
  · rfl
  all_goals exact absurd h.1 (by simp [valN, valB, valF, valS, valO])
theorem zVal_may : mayB zVal = true ∧ calleeB zVal = true ∧ zeroB zVal = true := by decide +kernel
/-- A descriptor that may be, part by part. -/
structure MayP (q : Prp) : Prop where
  lo : 0 ≤ q.ph
  hi : q.ph ≤ 63
  ad : (hasB q.ph 9 && hasB q.ph 6) = false
  n1 : hasB q.ph 1 = false → q.pv = zVal
  n2 : hasB q.ph 2 = false → q.pg = zVal
  n4 : hasB q.ph 4 = false → q.pt = zVal
  n8 : hasB q.ph 8 = false → q.pw = false
  n16 : hasB q.ph 16 = false → q.pe = false
  n32 : hasB q.ph 32 = false → q.pc = false
  v : mayB q.pv = true
  g : calleeB q.pg = true
  t : calleeB q.pt = true
theorem may_parts {q : Prp} (h : mayP q = true) : MayP q := by
  unfold mayP at h
  simp only [Bool.and_eq_true, Bool.not_eq_true', Bool.or_eq_false_iff, decide_eq_false_iff_not, Bool.and_eq_false_iff, Bool.not_eq_false'] at h
  obtain ⟨⟨⟨⟨⟨a1, a2⟩, a3⟩, ⟨⟨b1, b2⟩, b3⟩⟩, ⟨⟨c1, c2⟩, c3⟩⟩, ⟨⟨d1, d2⟩, d3⟩⟩ := h
  refine ⟨by omega, by omega, by rw [Bool.and_eq_false_iff]; exact a3, fun e => zero_val (b1.resolve_left (by rw [e]; simp)), fun e => zero_val (b2.resolve_left (by rw [e]; simp)), fun e => zero_val (b3.resolve_left (by rw [e]; simp)), fun e => c1.resolve_left (by rw [e]; simp), fun e => c2.resolve_left (by rw [e]; simp), fun e => c3.resolve_left (by rw [e]; simp), d1, d2, d3⟩
theorem parts_may {q : Prp} (h : MayP q) : mayP q = true := by
  have z := zVal_may
  have e : ∀ (b : Bool) (v : Val), (b = false → v = zVal) → (!b && !zeroB v) = false := fun b v k => by
    cases b
    · rw [k rfl, z.2.2]; rfl
    · rfl
  have f : ∀ b c : Bool, (b = false → c = false) → (!b && c) = false := fun b c k => by
    cases b
    · rw [k rfl]; rfl
    · rfl
  unfold mayP
  rw [decide_eq_false (by have := h.lo; omega : ¬ q.ph < 0), decide_eq_false (by have := h.hi; omega : ¬ 63 < q.ph), h.ad, e _ _ h.n1, e _ _ h.n2, e _ _ h.n4, f _ _ h.n8, f _ _ h.n16, f _ _ h.n32, h.v, h.g, h.t]
  rfl
theorem callee_may {v : Val} (h : calleeB v = true) : mayB v = true := by
  unfold calleeB at h
  rw [Bool.and_eq_true] at h
  exact h.1
theorem MayP.facts {q : Prp} (h : MayP q) : hasB q.ph 9 = (hasB q.ph 1 || hasB q.ph 8) ∧ hasB q.ph 6 = (hasB q.ph 2 || hasB q.ph 4) ∧
    (hasB q.ph 6 = true → hasB q.ph 9 = false → orB (orB q.ph 6) 48 = 54) ∧ (hasB q.ph 6 = false → orB (orB q.ph 9) 48 = 57) := by
  have lo := h.lo
  have hi := h.hi
  obtain ⟨k, hk⟩ := Int.eq_ofNat_of_zero_le lo
  have := has_fin ⟨k, by omega⟩
  rw [hk]
  exact this
/-- A full one: of an accessor, or of data. -/
theorem full_parts {p : Prp} (h : fullB p = true) : MayP p ∧ (p.ph = 54 ∨ p.ph = 57) := by
  unfold fullB at h
  rw [Bool.and_eq_true, Bool.or_eq_true, beq_iff_eq, beq_iff_eq] at h
  exact ⟨may_parts h.1, h.2⟩
theorem parts_full {p : Prp} (h : MayP p) (k : p.ph = 54 ∨ p.ph = 57) : fullB p = true := by
  unfold fullB
  rw [parts_may h, Bool.true_and, Bool.or_eq_true, beq_iff_eq, beq_iff_eq]
  exact k
theorem full_full {q : Prp} (h : mayP q = true) : fullB (fullP q) = true := by
  have m := may_parts h
  have z := zVal_may
  obtain ⟨f9, f6, o6, o9⟩ := m.facts
  have ad := m.ad
  unfold fullP
  cases h6 : hasB q.ph 6
  · rw [if_neg (by simp)]
    refine parts_full ?_ (.inr (o9 h6))
    rw [h6, eq_comm, Bool.or_eq_false_iff] at f6
    rw [o9 h6]
    obtain ⟨t9, t6, t1, t2, t4, t8, t16, t32⟩ := has57
    exact ⟨by show (0 : Int) ≤ 57; omega, by show (57 : Int) ≤ 63; omega, by show (hasB 57 9 && hasB 57 6) = false; rw [t6, Bool.and_false], fun e => absurd e (by show ¬ hasB 57 1 = false; rw [t1]; simp), fun _ => m.n2 f6.1, fun _ => m.n4 f6.2, fun e => absurd e (by show ¬ hasB 57 8 = false; rw [t8]; simp), fun e => absurd e (by show ¬ hasB 57 16 = false; rw [t16]; simp), fun e => absurd e (by show ¬ hasB 57 32 = false; rw [t32]; simp), m.v, m.g, m.t⟩
  · rw [if_pos rfl]
    rw [h6, Bool.and_true] at ad
    refine parts_full ?_ (.inl (o6 h6 ad))
    rw [ad, eq_comm, Bool.or_eq_false_iff] at f9
    rw [o6 h6 ad]
    obtain ⟨t9, t6, t1, t2, t4, t8, t16, t32⟩ := has54
    exact ⟨by show (0 : Int) ≤ 54; omega, by show (54 : Int) ≤ 63; omega, by show (hasB 54 9 && hasB 54 6) = false; rw [t9, Bool.false_and], fun _ => m.n1 f9.1, fun e => absurd e (by show ¬ hasB 54 2 = false; rw [t2]; simp), fun e => absurd e (by show ¬ hasB 54 4 = false; rw [t4]; simp), fun _ => m.n8 f9.2, fun e => absurd e (by show ¬ hasB 54 16 = false; rw [t16]; simp), fun e => absurd e (by show ¬ hasB 54 32 = false; rw [t32]; simp), m.v, m.g, m.t⟩
theorem full_may {p : Prp} (h : fullB p = true) : mayP p = true := parts_may (full_parts h).1
/-- Each part of what Change tells. -/
theorem chg_eq (p q : Prp) : chgP p q = { ph := (kindP p q).ph, pv := if hasB q.ph 1 = true then q.pv else (kindP p q).pv, pg := if hasB q.ph 2 = true then q.pg else (kindP p q).pg, pt := if hasB q.ph 4 = true then q.pt else (kindP p q).pt, pw := if hasB q.ph 8 = true then q.pw else (kindP p q).pw, pe := if hasB q.ph 16 = true then q.pe else (kindP p q).pe, pc := if hasB q.ph 32 = true then q.pc else (kindP p q).pc } := by
  unfold chgP stp
  generalize kindP p q = r
  cases hasB q.ph 1 <;> cases hasB q.ph 2 <;> cases hasB q.ph 4 <;> cases hasB q.ph 8 <;> cases hasB q.ph 16 <;> cases hasB q.ph 32 <;> rfl
/-- The other sort's start, or the one that was. -/
theorem kind_cases (p q : Prp) : ((hasB q.ph 6 = true ∧ hasB p.ph 6 = false) ∧ kindP p q = { zPrp with ph := 54, pe := p.pe, pc := p.pc }) ∨ ((hasB q.ph 6 = false ∧ hasB q.ph 9 = true ∧ hasB p.ph 6 = true) ∧ kindP p q = { zPrp with ph := 57, pe := p.pe, pc := p.pc }) ∨
    ((hasB q.ph 6 = true ∧ hasB p.ph 6 = true ∨ hasB q.ph 6 = false ∧ hasB q.ph 9 = true ∧ hasB p.ph 6 = false ∨ hasB q.ph 6 = false ∧ hasB q.ph 9 = false) ∧ kindP p q = p) := by
  unfold kindP
  cases hasB q.ph 6 <;> cases hasB q.ph 9 <;> cases hasB p.ph 6 <;> simp
theorem full_chg {p q : Prp} (hp : fullB p = true) (hq : mayP q = true) : fullB (chgP p q) = true := by
  obtain ⟨mp, kp⟩ := full_parts hp
  have mq := may_parts hq
  have z := zVal_may
  obtain ⟨f9, f6, -, -⟩ := mq.facts
  have ad := mq.ad
  obtain ⟨u9, u6, u1, u2, u4, u8, u16, u32⟩ := has54
  obtain ⟨t9, t6, t1, t2, t4, t8, t16, t32⟩ := has57
  rw [chg_eq]
  have key : ∀ r : Prp, (r.ph = 54 ∧ r.pv = zVal ∧ r.pw = false ∧ hasB q.ph 1 = false ∧ hasB q.ph 8 = false ∨ r.ph = 57 ∧ r.pg = zVal ∧ r.pt = zVal ∧ hasB q.ph 2 = false ∧ hasB q.ph 4 = false) → mayB r.pv = true → calleeB r.pg = true → calleeB r.pt = true →
      fullB { ph := r.ph, pv := if hasB q.ph 1 = true then q.pv else r.pv, pg := if hasB q.ph 2 = true then q.pg else r.pg, pt := if hasB q.ph 4 = true then q.pt else r.pt, pw := if hasB q.ph 8 = true then q.pw else r.pw, pe := if hasB q.ph 16 = true then q.pe else r.pe, pc := if hasB q.ph 32 = true then q.pc else r.pc } = true := fun r hr mv mg mt => by
    have ev : mayB (if hasB q.ph 1 = true then q.pv else r.pv) = true := by split; exact mq.v; exact mv
    have eg : calleeB (if hasB q.ph 2 = true then q.pg else r.pg) = true := by split; exact mq.g; exact mg
    have et : calleeB (if hasB q.ph 4 = true then q.pt else r.pt) = true := by split; exact mq.t; exact mt
    rcases hr with ⟨k, e1, e2, e3, e4⟩ | ⟨k, e1, e2, e3, e4⟩
    · rw [k]
      refine parts_full ⟨by show (0 : Int) ≤ 54; omega, by show (54 : Int) ≤ 63; omega, by show (hasB 54 9 && hasB 54 6) = false; rw [u9, Bool.false_and], fun _ => by show (if hasB q.ph 1 = true then q.pv else r.pv) = zVal; rw [if_neg (by rw [e3]; simp)]; exact e1, fun e => absurd e (by show ¬ hasB 54 2 = false; rw [u2]; simp), fun e => absurd e (by show ¬ hasB 54 4 = false; rw [u4]; simp), fun _ => by show (if hasB q.ph 8 = true then q.pw else r.pw) = false; rw [if_neg (by rw [e4]; simp)]; exact e2, fun e => absurd e (by show ¬ hasB 54 16 = false; rw [u16]; simp), fun e => absurd e (by show ¬ hasB 54 32 = false; rw [u32]; simp), ev, eg, et⟩ (.inl rfl)
    · rw [k]
      refine parts_full ⟨by show (0 : Int) ≤ 57; omega, by show (57 : Int) ≤ 63; omega, by show (hasB 57 9 && hasB 57 6) = false; rw [t6, Bool.and_false], fun e => absurd e (by show ¬ hasB 57 1 = false; rw [t1]; simp), fun _ => by show (if hasB q.ph 2 = true then q.pg else r.pg) = zVal; rw [if_neg (by rw [e3]; simp)]; exact e1, fun _ => by show (if hasB q.ph 4 = true then q.pt else r.pt) = zVal; rw [if_neg (by rw [e4]; simp)]; exact e2, fun e => absurd e (by show ¬ hasB 57 8 = false; rw [t8]; simp), fun e => absurd e (by show ¬ hasB 57 16 = false; rw [t16]; simp), fun e => absurd e (by show ¬ hasB 57 32 = false; rw [t32]; simp), ev, eg, et⟩ (.inr rfl)
  have q6 : hasB q.ph 6 = true → hasB q.ph 1 = false ∧ hasB q.ph 8 = false := fun e => by
    rw [e, Bool.and_true] at ad
    rw [ad, eq_comm, Bool.or_eq_false_iff] at f9
    exact f9
  have q9 : hasB q.ph 6 = false → hasB q.ph 2 = false ∧ hasB q.ph 4 = false := fun e => by
    rw [e, eq_comm, Bool.or_eq_false_iff] at f6
    exact f6
  rcases kind_cases p q with ⟨⟨h1, h2⟩, e⟩ | ⟨⟨h1, h2, h3⟩, e⟩ | ⟨h, e⟩
  · rw [e]
    exact key _ (.inl ⟨rfl, rfl, rfl, (q6 h1).1, (q6 h1).2⟩) z.1 z.2.1 z.2.1
  · rw [e]
    exact key _ (.inr ⟨rfl, rfl, rfl, (q9 h1).1, (q9 h1).2⟩) z.1 z.2.1 z.2.1
  · rw [e]
    refine key p ?_ mp.v mp.g mp.t
    rcases kp with k | k
    · have b1 := mp.n1 (by rw [k]; exact u1)
      have b2 := mp.n8 (by rw [k]; exact u8)
      have hb : hasB p.ph 6 = true := by rw [k]; exact u6
      rw [hb] at h
      rcases h with ⟨h1, -⟩ | ⟨-, -, h1⟩ | ⟨h1, h2⟩
      · exact .inl ⟨k, b1, b2, (q6 h1).1, (q6 h1).2⟩
      · cases h1
      · rw [h2, eq_comm, Bool.or_eq_false_iff] at f9
        exact .inl ⟨k, b1, b2, f9.1, f9.2⟩
    · have b1 := mp.n2 (by rw [k]; exact t2)
      have b2 := mp.n4 (by rw [k]; exact t4)
      have hb : hasB p.ph 6 = false := by rw [k]; exact t6
      rw [hb] at h
      rcases h with ⟨-, h1⟩ | ⟨h1, -, -⟩ | ⟨h1, -⟩
      · cases h1
      · exact .inr ⟨k, b1, b2, (q9 h1).1, (q9 h1).2⟩
      · exact .inr ⟨k, b1, b2, (q9 h1).1, (q9 h1).2⟩
end Go.Proofs.Ytlkgijinckhkkaa
