/-
  What the program asks of descriptors is what the document asks: plain facts. No walk in it.
-/
import Derived.Test.YtlkgijinckhkkaaQ4
namespace Go.Proofs.Ytlkgijinckhkkaa
open Go.RowKit
theorem over_eq (o p : Prp) : overP o p = { ph := orB o.ph p.ph, pv := if hasB p.ph 1 = true then p.pv else o.pv, pg := if hasB p.ph 2 = true then p.pg else o.pg, pt := if hasB p.ph 4 = true then p.pt else o.pt, pw := if hasB p.ph 8 = true then p.pw else o.pw, pe := if hasB p.ph 16 = true then p.pe else o.pe, pc := if hasB p.ph 32 = true then p.pc else o.pc } := by
  unfold overP stp
  cases hasB p.ph 1 <;> cases hasB p.ph 2 <;> cases hasB p.ph 4 <;> cases hasB p.ph 8 <;> cases hasB p.ph 16 <;> cases hasB p.ph 32 <;> rfl
theorem or_fin : ∀ k : Fin 64, (hasB (k.val : Int) 9 = false → orB 54 (k.val : Int) = 54) ∧ (hasB (k.val : Int) 6 = false → orB 57 (k.val : Int) = 57) ∧ orB 0 (k.val : Int) = (k.val : Int) ∧ (bits BinOp.andNot IntKind.i64 (k.val : Int) 63 != 0) = false := by decide +kernel
theorem MayP.ors {q : Prp} (h : MayP q) : (hasB q.ph 9 = false → orB 54 q.ph = 54) ∧ (hasB q.ph 6 = false → orB 57 q.ph = 57) ∧ orB 0 q.ph = q.ph ∧ (bits BinOp.andNot IntKind.i64 q.ph 63 != 0) = false := by
  obtain ⟨k, hk⟩ := Int.eq_ofNat_of_zero_le h.lo
  have hi := h.hi
  have := or_fin ⟨k, by omega⟩
  rw [hk]
  exact this
theorem pick_self {α : Type} {b : Bool} {x z : α} (h : b = false → x = z) : (if b = true then x else z) = x := by
  cases b
  · rw [if_neg (by simp), h rfl]
  · rw [if_pos rfl]
theorem over_none {p : Prp} (h : MayP p) : overP zPrp p = p := by
  rw [over_eq]
  have e := h.ors.2.2.1
  obtain ⟨ph, pv, pg, pt, pw, pe, pc⟩ := p
  show Prp.mk (orB 0 ph) (if _ then _ else zVal) (if _ then _ else zVal) (if _ then _ else zVal) (if _ then _ else false) (if _ then _ else false) (if _ then _ else false) = _
  rw [e, pick_self h.n1, pick_self h.n2, pick_self h.n4, pick_self h.n8, pick_self h.n16, pick_self h.n32]
theorem over_full {p : Prp} (hm : mayP p = true) : overP (bareP (hasB p.ph 6)) p = fullP p := by
  have h := may_parts hm
  obtain ⟨o54, o57, -, -⟩ := h.ors
  obtain ⟨-, -, f54, f57⟩ := h.facts
  have ad := h.ad
  have e : ∀ n, overP { zPrp with ph := n } p = { p with ph := orB n p.ph } := fun n => by
    rw [over_eq]
    obtain ⟨ph, pv, pg, pt, pw, pe, pc⟩ := p
    show Prp.mk (orB n ph) (if _ then _ else zVal) (if _ then _ else zVal) (if _ then _ else zVal) (if _ then _ else false) (if _ then _ else false) (if _ then _ else false) = _
    rw [pick_self h.n1, pick_self h.n2, pick_self h.n4, pick_self h.n8, pick_self h.n16, pick_self h.n32]
  unfold fullP
  cases h6 : hasB p.ph 6
  · rw [if_neg (by simp)]
    show overP { zPrp with ph := 57 } p = _
    rw [e, o57 h6, f57 h6]
  · rw [h6, Bool.and_true] at ad
    rw [if_pos rfl]
    show overP { zPrp with ph := 54 } p = _
    rw [e, o54 ad, f54 h6 ad]
theorem tur_kind (p q : Prp) : turP p q = kindP p q := by
  unfold turP kindP bareP
  cases hasB q.ph 6 <;> cases hasB q.ph 9 <;> cases hasB p.ph 6 <;> rfl
theorem over_chg {p q : Prp} (hp : fullB p = true) (hq : mayP q = true) : overP (turP p q) q = chgP p q := by
  have h := may_parts hq
  obtain ⟨o54, o57, -, -⟩ := h.ors
  obtain ⟨-, kp⟩ := full_parts hp
  have ad := h.ad
  have e : orB (kindP p q).ph q.ph = (kindP p q).ph := by
    rcases kind_cases p q with ⟨⟨h6, -⟩, e⟩ | ⟨⟨h6, -, -⟩, e⟩ | ⟨k, e⟩
    · rw [e]
      rw [h6, Bool.and_true] at ad
      exact o54 ad
    · rw [e]
      exact o57 h6
    · rw [e]
      rcases kp with kp | kp
      · rw [kp]
        refine o54 ?_
        rw [kp, has54.2.1] at k
        rcases k with ⟨h6, -⟩ | ⟨-, -, h6⟩ | ⟨-, h9⟩
        · rw [h6, Bool.and_true] at ad
          exact ad
        · cases h6
        · exact h9
      · rw [kp]
        refine o57 ?_
        rw [kp, has57.2.1] at k
        rcases k with ⟨-, h6⟩ | ⟨h6, -, -⟩ | ⟨h6, -⟩
        · cases h6
        · exact h6
        · exact h6
  rw [tur_kind, over_eq, chg_eq, e]
theorem lets_fixed {p q : Prp} (hq : mayP q = true) : letsB p q = fixedB p q := by
  have h := may_parts hq
  have n32 := h.n32
  have n8 := h.n8
  have e1 : (q.pc && hasB q.ph 32) = q.pc := by
    cases k : hasB q.ph 32
    · rw [n32 k]; rfl
    · simp
  have e2 : (q.pw && hasB q.ph 8) = q.pw := by
    cases k : hasB q.ph 8
    · rw [n8 k]; rfl
    · simp
  unfold letsB fixedB staB
  rw [e1, e2]
  cases q.pc <;> cases (q.pe != p.pe) <;> cases hasB q.ph 16 <;> rfl
theorem ok_ok {p q : Prp} (hq : mayP q = true) : okB p q = okP p q := by
  unfold okB okP
  rw [lets_fixed hq]
theorem nand_range {x : Int} (lo : -9223372036854775808 ≤ x) (hi : x < 9223372036854775808) (h : (bits BinOp.andNot IntKind.i64 x 63 != 0) = false) : 0 ≤ x ∧ x ≤ 63 := by
  have h0 : bits BinOp.andNot IntKind.i64 x 63 = 0 := by simpa using h
  have h0 : IntKind.i64.wrap ((BitVec.ofInt 64 x &&& ~~~63#64).toNat : Int) = 0 := h0
  generalize ha : BitVec.ofInt 64 x = a at h0
  have hn : (a &&& ~~~63#64).toNat = 0 := by
    have hl := (a &&& ~~~63#64).isLt
    revert h0
    generalize (a &&& ~~~63#64).toNat = n at hl ⊢
    intro h0
    have hl' : n < 18446744073709551616 := hl
    simp [IntKind.wrap_i64] at h0
    omega
  have hz : a &&& ~~~63#64 = 0#64 := BitVec.eq_of_toNat_eq hn
  have he : a &&& 63#64 = a := by
    have q : ∀ i : Fin 64, (18446744073709551552#64).getLsbD i.val = false → (63#64).getLsbD i.val = true := by decide +kernel
    apply BitVec.eq_of_getLsbD_eq
    intro i hi
    have := congrArg (fun b => BitVec.getLsbD b i) hz
    simp at this ⊢
    exact fun k => q ⟨i, hi⟩ (this k)
  have hle : a.toNat ≤ 63 := by
    rw [← he, BitVec.toNat_and]
    exact Nat.and_le_right
  have hx : a.toNat = (x % 18446744073709551616).toNat := by
    rw [← ha]
    exact BitVec.toNat_ofInt ..
  omega
theorem bits_zero {v : Val} (h : bitsV v zVal = true) : v = zVal := by
  obtain ⟨k, b, n, s, o⟩ := v
  unfold bitsV alikeV zVal at h
  simp only [Bool.and_eq_true, beq_iff_eq] at h
  obtain ⟨⟨rfl, ⟨⟨rfl, hs⟩, rfl⟩⟩, rfl⟩ := h
  have : s = ⟨#[]⟩ := bytes_none (by rw [hs]; decide +kernel)
  subst this
  rfl
theorem chk_may {p : Prp} (sp : SzP p) : chkB p = mayP p := by
  rw [Bool.eq_iff_iff]
  constructor
  · intro h
    unfold chkB at h
    simp only [Bool.and_eq_true, Bool.not_eq_true'] at h
    obtain ⟨⟨⟨⟨⟨h0, h1⟩, h2⟩, h3⟩, h4⟩, h5⟩ := h
    obtain ⟨a, b⟩ := nand_range sp.lo sp.hi h0
    rw [over_eq] at h2
    unfold samePB at h2
    simp only [Bool.and_eq_true] at h2
    obtain ⟨⟨⟨⟨⟨⟨-, v1⟩, v2⟩, v3⟩, v4⟩, v5⟩, v6⟩ := h2
    refine parts_may ⟨a, b, by rw [Bool.and_comm]; exact h1, ?_, ?_, ?_, ?_, ?_, ?_, h3, h4, h5⟩
    · intro k; rw [k] at v1; exact bits_zero v1
    · intro k; rw [k] at v2; exact bits_zero v2
    · intro k; rw [k] at v3; exact bits_zero v3
    · intro k; rw [k] at v4; exact beq_iff_eq.1 v4
    · intro k; rw [k] at v5; exact beq_iff_eq.1 v5
    · intro k; rw [k] at v6; exact beq_iff_eq.1 v6
  · intro h
    have m := may_parts h
    unfold chkB
    rw [m.ors.2.2.2, over_none m, sameP_self, m.v, m.g, m.t, Bool.and_comm (hasB p.ph 6), m.ad]
    rfl
end Go.Proofs.Ytlkgijinckhkkaa
