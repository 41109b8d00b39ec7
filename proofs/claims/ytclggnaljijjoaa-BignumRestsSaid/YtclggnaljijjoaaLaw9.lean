/-
  The law BignumRests.
-/
import Derived.Test.YtclggnaljijjoaaLaw3
import Derived.Test.YtclggnaljijjoaaLaw8
import Derived.Test.YtclggnaljijjoaaLaw4
namespace Go.Proofs.Ytclggnaljijjoaa
open Go.RowKit
theorem divOne (A C : Option Addr) (n c m d : Nat) (l k : List Nat) (NQ NR : Nat) (w : World) (hn : l.length = n) (hc : n ≤ c) (h : RW w w.heap.size A l)
    (gn : k.length = m) (gc : m ≤ d) (g : RW w w.heap.size C k) (hs : n ≤ 1024) (hs2 : m ≤ 1024) (hk : 0 < val k) (hQ : (wds (val l / val k)).length = NQ) (hR : (wds (val l % val k)).length = NR) :
    Calls Try.prog 27 #[.slice A n c, .slice C m d] w (Three (wds (val l / val k)) (wds (val l % val k)) NQ NR 0 w) := by
  have h1 := wds_len_le h.1
  have h2 := wds_len_le g.1
  have hl : (lngB (val l) || lngB (val k)) = false := by rw [lng_of_len (by omega), lng_of_len (by omega)]; rfl
  have e0 : divK (val l) (val k) = 0 := by unfold divK; rw [if_neg (by rw [hl]; simp), if_neg (by omega)]
  refine (div_any A C n c m d l k w hn hc (by omega) h gn gc (by omega) g).mono fun e w' x => ?_
  unfold divQ divR at x
  rw [e0, if_pos (divB_ok hl hk), if_pos (divB_ok hl hk)] at x
  exact x.three hQ hR
theorem shlOne (A : Option Addr) (n c q : Nat) (l : List Nat) (v N : Nat) (w : World) (hn : l.length = n) (hc : n ≤ c) (h : RW w w.heap.size A l) (hs : n ≤ 400) (hv : val l * 2 ^ q = v) (hN : (wds v).length = N) (hN2 : N ≤ 1024) :
    Calls Try.prog 29 #[.slice A n c, .int .i64 (q : Nat)] w (OneP (wds v) N w) := by
  have h1 := wds_len_le h.1
  refine (pshl_any A n c q l w hn hc (by omega) h).mono fun e w' x => ?_
  rw [shlq_ok (lng_of_len (by omega)), hv] at x
  exact x.one (lng_of_len (by omega)) hN
theorem shl_few (v q n : Nat) (hv : (wds v).length ≤ n) (hq : q < 256) : (wds (v * 2 ^ q)).length ≤ n + 8 := by
  have h1 := wds_lt v
  have h2 : v < 4294967296 ^ n := Nat.lt_of_lt_of_le h1 (Nat.pow_le_pow_right (by omega) hv)
  have h3 : 2 ^ q ≤ 2 ^ 256 := Nat.pow_le_pow_right (by omega) (by omega)
  refine wds_len_lt ?_
  rw [Nat.pow_add, show (4294967296 : Nat) ^ 8 = 2 ^ 256 from rfl]
  exact Nat.lt_of_lt_of_le (Nat.mul_lt_mul_of_pos_right h2 (Nat.two_pow_pos q)) (Nat.mul_le_mul_left _ h3)
set_option maxRecDepth 100000 in
set_option maxHeartbeats 8000000 in
theorem rests_small (A C : Option Addr) (n c m d x : Nat) (l k : List Nat) (w : World) (hn : l.length = n) (hc : n ≤ c) (h : RW w w.heap.size A l)
    (gn : k.length = m) (gc : m ≤ d) (g : RW w w.heap.size C k) (hs : n ≤ 400) (hs2 : m ≤ 400) (hx : x < 256) (hk : 0 < val k) :
    Calls Try.prog 9 #[.slice A n c, .slice C m d, .int .u8 x] w fun e w' => e = .returned (.bool true) ∧ Below w.heap.size w w' := by
  have hwl := wds_len_le h.1
  have hwk := wds_len_le g.1
  obtain ⟨NQ, hNQ⟩ : ∃ NQ, (wds (val l / val k)).length = NQ := ⟨_, rfl⟩
  obtain ⟨NR, hNR⟩ : ∃ NR, (wds (val l % val k)).length = NR := ⟨_, rfl⟩
  obtain ⟨NP, hNP⟩ : ∃ NP, (wds (val l / val k * val k)).length = NP := ⟨_, rfl⟩
  obtain ⟨NX, hNX⟩ : ∃ NX, (wds (val l * 2 ^ x)).length = NX := ⟨_, rfl⟩
  obtain ⟨ND, hND⟩ : ∃ ND, (wds (val l)).length = ND := ⟨_, rfl⟩
  have lQ : NQ ≤ 400 := by have := wds_mono (Nat.div_le_self (val l) (val k)); omega
  have lR : NR ≤ 400 := by have := wds_mono (Nat.mod_le (val l) (val k)); omega
  have lP : NP ≤ 400 := by have := wds_mono (Nat.div_mul_le_self (val l) (val k)); omega
  have lX : NX ≤ 408 := by have := shl_few (val l) x 400 (by omega) hx; omega
  have hND2 : (nrm l).length = ND := by rw [nrm_wds h.1]; exact hND
  have hbt : btl k ≠ 0 := fun e => by
    have := (btl_zero g.1).1 e
    rw [← val_nrm, this] at hk
    exact absurd hk (by simp [val])
  obtain ⟨bt, hbe⟩ : ∃ bt, btl k = bt := ⟨_, rfl⟩
  rw [hbe] at hbt
  have KBITS := Lib.hid (fun W (hb : Below w.heap.size w W) => show Calls Try.prog 19 #[.slice C m d] W fun e w' => e = .returned (.int .i64 (bt : Nat)) ∧ Below W.heap.size W w' from by
    have := rbits_any C m d k W.heap.size W gn gc (by omega) (g.step hb)
    rw [hbe] at this; exact this)
  have hb1 : ((bt : Int) == 0) = false := by simp; omega
  have KA := Lib.hid (fun W (hb : Below w.heap.size w W) => ownT A n c l W hn (by omega) (h.step hb))
  have KB := Lib.hid (fun W (hb : Below w.heap.size w W) => ownT C m d k W gn (by omega) (g.step hb))
  have KOQ := Lib.hid (fun W A2 c2 (_ : NQ ≤ c2) (r : RW W W.heap.size A2 (wds (val l / val k))) => ownT A2 NQ c2 _ W hNQ (by omega) r)
  have KOR := Lib.hid (fun W A2 c2 (_ : NR ≤ c2) (r : RW W W.heap.size A2 (wds (val l % val k))) => ownT A2 NR c2 _ W hNR (by omega) r)
  have KOP := Lib.hid (fun W A2 c2 (_ : NP ≤ c2) (r : RW W W.heap.size A2 (wds (val l / val k * val k))) => ownT A2 NP c2 _ W hNP (by omega) r)
  have KOX := Lib.hid (fun W A2 c2 (_ : NX ≤ c2) (r : RW W W.heap.size A2 (wds (val l * 2 ^ x))) => ownT A2 NX c2 _ W hNX (by omega) r)
  have Kdiv := Lib.hid (fun W A2 C2 c2 d2 (h2 : n ≤ c2) (h3 : m ≤ d2) (r2 : RW W W.heap.size A2 l) (r3 : RW W W.heap.size C2 k) => divOne A2 C2 n c2 m d2 l k NQ NR W hn h2 r2 gn h3 r3 (by omega) (by omega) hk hNQ hNR)
  have Kqb := Lib.hid (fun W A2 C2 c2 d2 (h2 : NQ ≤ c2) (h3 : m ≤ d2) (r2 : RW W W.heap.size A2 (wds (val l / val k))) (r3 : RW W W.heap.size C2 k) => mulOne A2 C2 NQ c2 m d2 _ k (val l / val k * val k) NP W hNQ h2 r2 gn h3 r3 (by omega) (by rw [wds_val]) hNP)
  have Kpr := Lib.hid (fun W A2 C2 c2 d2 (h2 : NP ≤ c2) (h3 : NR ≤ d2) (r2 : RW W W.heap.size A2 (wds (val l / val k * val k))) (r3 : RW W W.heap.size C2 (wds (val l % val k))) => addOne A2 C2 NP c2 NR d2 _ _ (val l) ND W hNP h2 r2 hNR h3 r3 (by omega) (by rw [wds_val, wds_val, Nat.mul_comm]; exact Nat.div_add_mod _ _) hND)
  have Kshl := Lib.hid (fun W A2 c2 (h2 : n ≤ c2) (r2 : RW W W.heap.size A2 l) => shlOne A2 n c2 x l _ NX W hn h2 r2 hs rfl hNX (by omega))
  have Kshr := Lib.hid (fun W A2 c2 (h2 : NX ≤ c2) (r2 : RW W W.heap.size A2 (wds (val l * 2 ^ x))) => show Calls Try.prog 31 #[.slice A2 NX c2, .int .i64 (x : Nat)] W (TwoB (wds (val l)) ND false W) from
    (pshr_any A2 NX c2 x _ W hNX h2 (by omega) r2).mono fun _ _ y => by
      have e1 : val l * 2 ^ x / 2 ^ x = val l := Nat.mul_div_cancel _ (Nat.two_pow_pos x)
      have e2 : val l * 2 ^ x % 2 ^ x = 0 := Nat.mul_mod_left _ _
      rw [Int.toNat_natCast, wds_val] at y
      have := y.two (N := ND) (by rw [e1]; exact hND)
      rw [e1, e2] at this
      exact this)
  have Kcmp := Lib.hid (fun W A2 c2 (h2 : NR ≤ c2) (hb : Below w.heap.size w W) (r2 : RW W W.heap.size A2 (wds (val l % val k))) => show Calls Try.prog 16 #[.slice A2 NR c2, .slice C m d] W fun e w' => e = .returned (.int .i64 (-1)) ∧ ∃ j, w' = W.drewN j from by
    have := cmp_any A2 C NR c2 m d _ k W.heap.size W.heap.size W hNR h2 (by omega) r2 gn gc (by omega) (g.step hb)
    rw [ord_lt (by rw [wds_val]; exact Nat.mod_lt _ hk)] at this
    exact this)
  have KS1 := Lib.hid (fun W A2 A3 c2 c3 (r2 : RW W W.heap.size A2 (wds (val l))) (r3 : RW W W.heap.size A3 (wds (val l))) => same_any A2 A3 ND c2 c3 _ W.heap.size W.heap.size W hND (by omega) r2 r3)
  have KN := Lib.hid (fun W (hb : Below w.heap.size w W) => show Calls Try.prog 13 #[.slice A n c] W (Told (wds (val l)) ND W) from by
    have := rnormT A n c l ND W hn hc (by omega) (h.step hb) hND2
    rw [nrm_wds h.1] at this
    exact this)
  have z1 : ¬ (400 : Int) < (n : Int) := by omega
  have z2 : ¬ (400 : Int) < (m : Int) := by omega
  have k1 : IntKind.i64.wrap (x : Int) = (x : Int) := IntWalk.i64_in _ (by omega)
  clear hn hc h gn gc g hs hs2 hwl hwk hNX hNQ hNR hNP hND lX lQ lR lP hND2 hk hbe hbt hx
  go_enter Try.func9, Try.ntmps9
  go_wp2_with fail
  refine (KBITS.out _ (Below.refl _ _)).mono ?_
  rintro e w0 ⟨rfl, B0⟩
  go_wp2_with fail
  refine (KA.out _ B0).mono ?_
  rintro e w1 ⟨A1, c1, rfl, ⟨hc1, r1⟩, b1⟩
  have B1 := below_le B0 b1
  clear b1
  go_wp2_with fail
  refine (KB.out _ B1).mono ?_
  rintro e w2 ⟨A2, c2, rfl, ⟨hc2, r2⟩, b2⟩
  replace r1 := r1.step b2
  have B2 := below_le B1 b2
  clear b2
  go_wp2_with fail
  refine (Kdiv.out _ _ _ _ _ hc1 hc2 r1 r2).mono ?_
  rintro e w3 ⟨A3, c3, C3, d3, rfl, ⟨hc3, hd3, r3, s3⟩, b3⟩
  replace r1 := r1.step b3
  replace r2 := r2.step b3
  have B3 := below_le B2 b3
  clear b3
  clear r1
  clear r2
  go_wp2_with fail
  refine (KOQ.out _ _ _ hc3 r3).mono ?_
  rintro e w4 ⟨A4, c4, rfl, ⟨hc4, r4⟩, b4⟩
  replace r3 := r3.step b4
  replace s3 := s3.step b4
  have B4 := below_le B3 b4
  clear b4
  go_wp2_with fail
  refine (KB.out _ B4).mono ?_
  rintro e w5 ⟨A5, c5, rfl, ⟨hc5, r5⟩, b5⟩
  replace r3 := r3.step b5
  replace s3 := s3.step b5
  replace r4 := r4.step b5
  have B5 := below_le B4 b5
  clear b5
  go_wp2_with fail
  refine (Kqb.out _ _ _ _ _ hc4 hc5 r4 r5).mono ?_
  rintro e w6 ⟨A6, c6, rfl, ⟨hc6, r6⟩, b6⟩
  replace r3 := r3.step b6
  replace s3 := s3.step b6
  replace r4 := r4.step b6
  replace r5 := r5.step b6
  have B6 := below_le B5 b6
  clear b6
  clear r4
  clear r5
  clear r3
  go_wp2_with fail
  refine (KOP.out _ _ _ hc6 r6).mono ?_
  rintro e w7 ⟨A7, c7, rfl, ⟨hc7, r7⟩, b7⟩
  replace s3 := s3.step b7
  replace r6 := r6.step b7
  have B7 := below_le B6 b7
  clear b7
  go_wp2_with fail
  refine (KOR.out _ _ _ hd3 s3).mono ?_
  rintro e w8 ⟨A8, c8, rfl, ⟨hc8, r8⟩, b8⟩
  replace s3 := s3.step b8
  replace r6 := r6.step b8
  replace r7 := r7.step b8
  have B8 := below_le B7 b8
  clear b8
  go_wp2_with fail
  refine (Kpr.out _ _ _ _ _ hc7 hc8 r7 r8).mono ?_
  rintro e w9 ⟨A9, c9, rfl, ⟨hc9, r9⟩, b9⟩
  replace s3 := s3.step b9
  replace r6 := r6.step b9
  replace r7 := r7.step b9
  replace r8 := r8.step b9
  have B9 := below_le B8 b9
  clear b9
  clear r7
  clear r8
  clear r6
  go_wp2_with fail
  refine (KA.out _ B9).mono ?_
  rintro e w10 ⟨A10, c10, rfl, ⟨hc10, r10⟩, b10⟩
  replace s3 := s3.step b10
  replace r9 := r9.step b10
  have B10 := below_le B9 b10
  clear b10
  go_wp2_with fail
  refine (Kshl.out _ _ _ hc10 r10).mono ?_
  rintro e w11 ⟨A11, c11, rfl, ⟨hc11, r11⟩, b11⟩
  replace s3 := s3.step b11
  replace r9 := r9.step b11
  replace r10 := r10.step b11
  have B11 := below_le B10 b11
  clear b11
  clear r10
  go_wp2_with fail
  refine (KOX.out _ _ _ hc11 r11).mono ?_
  rintro e w12 ⟨A12, c12, rfl, ⟨hc12, r12⟩, b12⟩
  replace s3 := s3.step b12
  replace r9 := r9.step b12
  replace r11 := r11.step b12
  have B12 := below_le B11 b12
  clear b12
  clear r11
  go_wp2_with fail
  refine (Kshr.out _ _ _ hc12 r12).mono ?_
  rintro e w13 ⟨A13, c13, rfl, ⟨hc13, r13⟩, b13⟩
  replace s3 := s3.step b13
  replace r9 := r9.step b13
  replace r12 := r12.step b13
  have B13 := below_le B12 b13
  clear b13
  clear r12
  go_wp2_with fail
  refine (KN.out _ B13).mono ?_
  rintro e w14 ⟨A14, c14, rfl, ⟨hc14, r14⟩, b14⟩
  replace s3 := s3.step b14
  replace r9 := r9.step b14
  replace r13 := r13.step b14
  have B14 := below_le B13 b14
  clear b14
  go_wp2_with fail
  refine (KS1.out _ _ _ _ _ r9 r14).mono ?_
  rintro e w' ⟨rfl, j1, rfl⟩
  have BJ1 := below_drewN' B14 j1
  go_wp2_with fail
  refine (Kcmp.out _ _ _ hd3 BJ1 (s3.drewN j1)).mono ?_
  rintro e w' ⟨rfl, j2, rfl⟩
  rw [World.drewN_drewN]
  have BJ2 := below_drewN' B14 (j1 + j2)
  have ry := r13.drewN (j1 + j2)
  go_wp2_with fail
  refine (KN.out _ BJ2).mono ?_
  rintro e wn ⟨An, cn, rfl, ⟨hcn, rn⟩, bn⟩
  have BN := below_le BJ2 bn
  replace ry := RW.step ry bn
  go_wp2_with fail
  refine (KS1.out _ _ _ _ _ ry rn).mono ?_
  rintro e w' ⟨rfl, j3, rfl⟩
  have BE := below_drewN' BN j3
  go_wp2_with fail
  refine (awake_any _).mono ?_
  rintro e wz ⟨rfl, bz⟩
  have BZ := below_le BE bz
  go_wp2
  go_ret
  exact ⟨rfl, BZ⟩
theorem rests_any (A C : Option Addr) (n c m d x : Nat) (l k : List Nat) (w : World) (hn : l.length = n) (hc : n ≤ c) (hm : n ≤ 35184372087808) (h : RW w w.heap.size A l)
    (gn : k.length = m) (gc : m ≤ d) (gm : m ≤ 35184372087808) (g : RW w w.heap.size C k) (hx : x < 256) :
    Calls Try.prog 9 #[.slice A n c, .slice C m d, .int .u8 x] w fun e w' => e = .returned (.bool true) ∧ Below w.heap.size w w' := by
  by_cases h1 : 400 < n
  · have z1 : (400 : Int) < (n : Int) := by omega
    clear hn hc hm h gn gc gm g hx h1
    go_enter Try.func9, Try.ntmps9
    go_wp2_with fail
    refine (awake_any _).mono ?_
    rintro e wz ⟨rfl, bz⟩
    go_wp2
    go_ret
    exact ⟨rfl, bz⟩
  · by_cases h2 : 400 < m
    · have z1 : ¬ (400 : Int) < (n : Int) := by omega
      have z2 : (400 : Int) < (m : Int) := by omega
      clear hn hc hm h gn gc gm g hx h1 h2
      go_enter Try.func9, Try.ntmps9
      go_wp2_with fail
      refine (awake_any _).mono ?_
      rintro e wz ⟨rfl, bz⟩
      go_wp2
      go_ret
      exact ⟨rfl, bz⟩
    · rcases Nat.eq_zero_or_pos (val k) with h3 | h3
      · have z1 : ¬ (400 : Int) < (n : Int) := by omega
        have z2 : ¬ (400 : Int) < (m : Int) := by omega
        have c1 := rbits_any C m d k w.heap.size w gn gc (by omega) g
        rw [(btl_zero g.1).2 (nrm_val_zero h3)] at c1
        clear hn hc hm h gn gc gm g hx h1 h2 h3
        go_enter Try.func9, Try.ntmps9
        go_wp2_with fail
        refine c1.mono ?_
        rintro e w1 ⟨rfl, b1⟩
        go_wp2_with fail
        refine (awake_any _).mono ?_
        rintro e wz ⟨rfl, bz⟩
        have BZ := below_le b1 bz
        go_wp2
        go_ret
        exact ⟨rfl, BZ⟩
      · exact rests_small A C n c m d x l k w hn hc h gn gc g (by omega) (by omega) hx h3
end Go.Proofs.Ytclggnaljijjoaa
