/-
  Contract of the document's own Bap, whole; the document's own Unbap. (Written by a script.)
-/
import Derived.Test.YtmonoicdejallaaZ6
import Derived.Test.YtmonoicdejallaaZ7
import Derived.Test.YtmonoicdejallaaO6
import Derived.Laws.BitsAllLaws
namespace Go.Proofs.Ytmonoicdejallaa.Z
open Go.RowKit
theorem pq (c : Int) (h : 0 ≤ c) (h2 : c ≤ 255) : ((UInt8.ofNat c.toNat).toNat : Int) = c := by simp; omega
theorem code_wrong (c i a : Int) (os : List Opt.Op) (h : Bap.gd c i = false ∨ Bap.fit c a = false) : Bap.put (c, i, a, os) = [] ∧ Bap.code (c, i, a, os) = 900 := by
  have e : Bap.code (c, i, a, os) = 900 := by
    unfold Bap.code
    exact if_neg fun g => by
      rcases h with h | h
      · rw [g.1] at h; cases h
      · rw [g.2.1] at h; cases h
  exact ⟨Bap.put_bad _ (by omega), e⟩
theorem head_cons (c i : Int) (n : Nat) (t : List UInt8) : ([UInt8.ofNat c.toNat, UInt8.ofNat i.toNat] ++ two n) ++ t = Ctl.head c i n ++ t := rfl
/-- The contract of the document's own Bap. -/
theorem rbap_any (c i a : Int) (v : Value) (os : List Opt.Op) (w : World) (hr : ReadsO w v os) (hl : os.length ≤ 4611686018427387904) (hd : ∀ o ∈ os, o.2.length ≤ 4611686018427387904) :
    Calls Try.prog 9 #[.agg #[.int .i64 c, .int .i64 i, .int .i64 a, v]] w fun e w' => e = .returned (.tuple #[.string ⟨(Bap.put (c, i, a, os)).toArray⟩, .int .i64 (Bap.code (c, i, a, os))]) ∧ Below w.heap.size w w' := by
  have P : ∀ W, Below w.heap.size w W → _ := fun W hb => O.ropts_any v os W (hr.below hb) hl hd
  by_cases hg : Bap.gd c i = true
  · obtain ⟨h1, h2, h3, h4⟩ := (Bap.gd_iff c i).1 hg
    by_cases hf : Bap.fit c a = true
    · have hb := (Bap.byte_iff a).1 (Bap.fit_byte c a hf)
      by_cases ho : Opt.code os = 0
      · obtain ⟨g1, g2⟩ := opt_put_len os ho
        have e := laid_put c i a os ho hf
        unfold laid Bap.rest at e
        dsimp only at e
        rw [if_pos hg] at e
        rw [ho, g1] at P
        cases hc : Bap.resp c
        · rw [Bap.fit_req c a hc] at hf
          obtain rfl : a = 0 := by simpa using hf
          rw [Bap.lead_req c 0 hc, List.nil_append] at e
          by_cases hn : (Opt.wires os).length + 4 ≤ 2048
          · rw [if_pos hn] at e
            obtain ⟨e1, e2⟩ := Prod.mk.inj e
            rw [← e1, ← e2]
            refine rb_good0 c i v (Opt.wires os) (two ((Opt.wires os).length + 4)) _ _ w h1 h2 h3 h4 hc (by omega) (Lib.hid P) (Lib.hid fun W => two_any ((Opt.wires os).length + 4) W (by omega)) _ _ (pq c (by omega) (by omega)) (pq i h3 h4) (sums _ _ (by simp [two])) ?_
            rw [← head_cons]
            exact sums _ _ (by simp [two]; omega)
          · rw [if_neg hn] at e
            obtain ⟨e1, e2⟩ := Prod.mk.inj e
            rw [← e1, ← e2]
            exact rb_long0 c i v (Opt.wires os) w h1 h2 h3 h4 hc (by omega) (by omega) (Lib.hid P)
        · rw [Bap.lead_resp c a hc, List.singleton_append] at e
          have r0 : Sums [UInt8.ofNat a.toNat] (Opt.wires os) (UInt8.ofNat a.toNat :: Opt.wires os) := sums _ _ (by simp; omega)
          have hlen : (UInt8.ofNat a.toNat :: Opt.wires os).length ≤ 2049 := by rw [List.length_cons]; omega
          generalize UInt8.ofNat a.toNat :: Opt.wires os = T at *
          by_cases hn : T.length + 4 ≤ 2048
          · rw [if_pos hn] at e
            obtain ⟨e1, e2⟩ := Prod.mk.inj e
            rw [← e1, ← e2]
            refine rb_good1 c i a v (Opt.wires os) T (two (T.length + 4)) _ _ w h1 h2 h3 h4 hb.1 hb.2 hc r0 (by omega) (Lib.hid P) (Lib.hid fun W => two_any (T.length + 4) W (by omega)) _ _ (pq c (by omega) (by omega)) (pq i h3 h4) (sums _ _ (by simp [two])) ?_
            rw [← head_cons]
            exact sums _ _ (by simp [two]; omega)
          · rw [if_neg hn] at e
            obtain ⟨e1, e2⟩ := Prod.mk.inj e
            rw [← e1, ← e2]
            exact rb_long1 c i a v (Opt.wires os) T w h1 h2 h3 h4 hb.1 hb.2 hc r0 (by omega) hlen (Lib.hid P)
      · obtain ⟨e1, e2⟩ := code_no c i a os (.inr ho)
        rw [e1, e2]
        cases hc : Bap.resp c
        · rw [Bap.fit_req c a hc] at hf
          obtain rfl : a = 0 := by simpa using hf
          exact rb_opts0 c i v _ w h1 h2 h3 h4 hc _ ho (Lib.hid P)
        · exact rb_opts1 c i a v _ w h1 h2 h3 h4 hb.1 hb.2 hc _ ho (Lib.hid P)
    · have hf2 : Bap.fit c a = false := by simpa using hf
      obtain ⟨e1, e2⟩ := code_wrong c i a os (.inr hf2)
      rw [e1, e2]
      by_cases g1 : a < 0
      · exact rb_a_low c i a v w h1 h2 h3 h4 g1
      · by_cases g2 : 255 < a
        · exact rb_a_high c i a v w h1 h2 h3 h4 (by omega) g2
        · cases hc : Bap.resp c
          · rw [Bap.fit_req c a hc] at hf2
            exact rb_answer c i a v w h1 h2 h3 h4 (by omega) (by omega) hc (by simpa using hf2)
          · rw [Bap.fit_resp c a hc, (Bap.byte_iff a).2 ⟨by omega, by omega⟩] at hf2
            cases hf2
  · have hg2 : Bap.gd c i = false := by simpa using hg
    obtain ⟨e1, e2⟩ := code_wrong c i a os (.inl hg2)
    rw [e1, e2]
    by_cases g1 : c < 1
    · exact rb_c_low c i a v w g1
    · by_cases g2 : 8 < c
      · exact rb_c_high c i a v w g2
      · by_cases g3 : i < 0
        · exact rb_i_low c i a v w (by omega) (by omega) g3
        · by_cases g4 : 255 < i
          · exact rb_i_high c i a v w (by omega) (by omega) (by omega) g4
          · exact absurd ((Bap.gd_iff c i).2 ⟨by omega, by omega, by omega, by omega⟩) hg
theorem and_one8 (x : UInt8) : bits BinOp.and IntKind.u8 (x.toNat : Int) 1 = (x.toNat : Int) % 2 := by
  have h := x.toNat_lt
  have e := u8_and_nat x.toNat 1 (by omega) (by omega)
  rw [show ((1 : Nat) : Int) = 1 from rfl] at e
  rw [e, Nat.and_one_is_mod]
  omega
set_option maxHeartbeats 400000 in
theorem un_short (s : ByteArray) (w : World) (h : s.size < 4) :
    Calls Try.prog 11 #[.string s] w fun e w' => e = .returned (.tuple #[.agg #[.int .i64 0, .int .i64 0, .int .i64 0, .slice none 0 0], .int .i64 900]) ∧ Below w.heap.size w w' := by
  go_enter Try.func11, Try.ntmps11
  go_wp2_with fail
  refine bodyPost_ret (v := .tuple #[.agg #[.int .i64 0, .int .i64 0, .int .i64 0, .slice none 0 0], .int .i64 900]) (by simp [results, Try.results11, go_sem]) rfl ⟨rfl, ?_⟩
  exact (Below.refl _ w).alloc (Nat.le_refl _) _
set_option maxHeartbeats 400000 in
theorem un_low (s : ByteArray) (x : UInt8) (w : World) (h : 4 ≤ s.size) (hm : s.size ≤ 9223372036854775807) (hx0 : s[0]'(by omega) = x) (hc : x.toNat < 1) :
    Calls Try.prog 11 #[.string s] w fun e w' => e = .returned (.tuple #[.agg #[.int .i64 0, .int .i64 0, .int .i64 0, .slice none 0 0], .int .i64 900]) ∧ Below w.heap.size w w' := by
  have p0 : 0 < s.size := by omega
  have q0 : (0 : Int) < (s.size : Int) := by omega
  go_enter Try.func11, Try.ntmps11
  go_wp2_with fail
  refine bodyPost_ret (v := .tuple #[.agg #[.int .i64 0, .int .i64 0, .int .i64 0, .slice none 0 0], .int .i64 900]) (by simp [results, Try.results11, go_sem]) rfl ⟨rfl, ?_⟩
  exact (Below.refl _ w).alloc (Nat.le_refl _) _
set_option maxHeartbeats 400000 in
theorem un_high (s : ByteArray) (x : UInt8) (w : World) (h : 4 ≤ s.size) (hm : s.size ≤ 9223372036854775807) (hx0 : s[0]'(by omega) = x) (hc : 8 < x.toNat) :
    Calls Try.prog 11 #[.string s] w fun e w' => e = .returned (.tuple #[.agg #[.int .i64 0, .int .i64 0, .int .i64 0, .slice none 0 0], .int .i64 900]) ∧ Below w.heap.size w w' := by
  have p0 : 0 < s.size := by omega
  have q0 : (0 : Int) < (s.size : Int) := by omega
  have hc2 : 1 ≤ x.toNat := by omega
  go_enter Try.func11, Try.ntmps11
  go_wp2_with fail
  refine bodyPost_ret (v := .tuple #[.agg #[.int .i64 0, .int .i64 0, .int .i64 0, .slice none 0 0], .int .i64 900]) (by simp [results, Try.results11, go_sem]) rfl ⟨rfl, ?_⟩
  exact (Below.refl _ w).alloc (Nat.le_refl _) _
set_option maxRecDepth 100000 in
set_option maxHeartbeats 1600000 in
theorem un_k4 (s : ByteArray) (x : UInt8) (k : Nat) (w : World) (h : 4 ≤ s.size) (hm : s.size ≤ 9223372036854775807) (hk : (s[2]'(by omega)).toNat * 256 + (s[3]'(by omega)).toNat = k) (hx0 : s[0]'(by omega) = x) (c1 : 1 ≤ x.toNat) (c2 : x.toNat ≤ 8) (hs : k < 4) :
    Calls Try.prog 11 #[.string s] w fun e w' => e = .returned (.tuple #[.agg #[.int .i64 0, .int .i64 0, .int .i64 0, .slice none 0 0], .int .i64 900]) ∧ Below w.heap.size w w' := by
  have hx := high_plus (s[2]'(by omega)) (s[3]'(by omega))
  rw [hk] at hx
  have p0 : 0 < s.size := by omega
  have p1 : 1 < s.size := by omega
  have p2 : 2 < s.size := by omega
  have p3 : 3 < s.size := by omega
  have q0 : (0 : Int) < (s.size : Int) := by omega
  have q1 : (1 : Int) < (s.size : Int) := by omega
  have q2 : (2 : Int) < (s.size : Int) := by omega
  have q3 : (3 : Int) < (s.size : Int) := by omega
  have e1 : wrap64 (x.toNat : Int) = (x.toNat : Int) := wrap64_nat _ (by have := x.toNat_lt; omega)
  have a1 := and_one8 x
  clear hk
  go_enter Try.func11, Try.ntmps11
  go_wp2_with fail
  go_region
  go_wp2_with fail
  refine bodyPost_ret (v := .tuple #[.agg #[.int .i64 0, .int .i64 0, .int .i64 0, .slice none 0 0], .int .i64 900]) (by simp [results, Try.results11, go_sem]) rfl ⟨rfl, ?_⟩
  exact ((Below.refl _ w).alloc (Nat.le_refl _) _).drew
set_option maxRecDepth 100000 in
set_option maxHeartbeats 1600000 in
theorem un_k5 (s : ByteArray) (x : UInt8) (k : Nat) (w : World) (h : 4 ≤ s.size) (hm : s.size ≤ 9223372036854775807) (hk : (s[2]'(by omega)).toNat * 256 + (s[3]'(by omega)).toNat = k) (hx0 : s[0]'(by omega) = x) (c1 : 1 ≤ x.toNat) (c2 : x.toNat ≤ 8) (hr : Bap.resp (x.toNat : Int) = true) (hs : 4 ≤ k) (hs5 : k < 5) :
    Calls Try.prog 11 #[.string s] w fun e w' => e = .returned (.tuple #[.agg #[.int .i64 0, .int .i64 0, .int .i64 0, .slice none 0 0], .int .i64 900]) ∧ Below w.heap.size w w' := by
  have hx := high_plus (s[2]'(by omega)) (s[3]'(by omega))
  rw [hk] at hx
  have p0 : 0 < s.size := by omega
  have p1 : 1 < s.size := by omega
  have p2 : 2 < s.size := by omega
  have p3 : 3 < s.size := by omega
  have q0 : (0 : Int) < (s.size : Int) := by omega
  have q1 : (1 : Int) < (s.size : Int) := by omega
  have q2 : (2 : Int) < (s.size : Int) := by omega
  have q3 : (3 : Int) < (s.size : Int) := by omega
  have e1 : wrap64 (x.toNat : Int) = (x.toNat : Int) := wrap64_nat _ (by have := x.toNat_lt; omega)
  have a1 := and_one8 x
  have rb : (((x.toNat : Int) % 2) == 0) = true := hr
  clear hr
  clear hk
  go_enter Try.func11, Try.ntmps11
  go_wp2_with fail
  go_region
  go_wp2_with fail
  refine bodyPost_ret (v := .tuple #[.agg #[.int .i64 0, .int .i64 0, .int .i64 0, .slice none 0 0], .int .i64 900]) (by simp [results, Try.results11, go_sem]) rfl ⟨rfl, ?_⟩
  exact ((Below.refl _ w).alloc (Nat.le_refl _) _).drew
set_option maxRecDepth 100000 in
set_option maxHeartbeats 1600000 in
theorem un_far0 (s : ByteArray) (x : UInt8) (k : Nat) (w : World) (h : 4 ≤ s.size) (hm : s.size ≤ 9223372036854775807) (hk : (s[2]'(by omega)).toNat * 256 + (s[3]'(by omega)).toNat = k) (hx0 : s[0]'(by omega) = x) (c1 : 1 ≤ x.toNat) (c2 : x.toNat ≤ 8) (hr : Bap.resp (x.toNat : Int) = false) (hs : 4 ≤ k) (hs5 : s.size < k) :
    Calls Try.prog 11 #[.string s] w fun e w' => e = .returned (.tuple #[.agg #[.int .i64 0, .int .i64 0, .int .i64 0, .slice none 0 0], .int .i64 900]) ∧ Below w.heap.size w w' := by
  have hx := high_plus (s[2]'(by omega)) (s[3]'(by omega))
  rw [hk] at hx
  have p0 : 0 < s.size := by omega
  have p1 : 1 < s.size := by omega
  have p2 : 2 < s.size := by omega
  have p3 : 3 < s.size := by omega
  have q0 : (0 : Int) < (s.size : Int) := by omega
  have q1 : (1 : Int) < (s.size : Int) := by omega
  have q2 : (2 : Int) < (s.size : Int) := by omega
  have q3 : (3 : Int) < (s.size : Int) := by omega
  have e1 : wrap64 (x.toNat : Int) = (x.toNat : Int) := wrap64_nat _ (by have := x.toNat_lt; omega)
  have a1 := and_one8 x
  have rb : (((x.toNat : Int) % 2) == 0) = false := hr
  clear hr
  clear hk
  go_enter Try.func11, Try.ntmps11
  go_wp2_with fail
  go_region
  go_wp2_with fail
  refine bodyPost_ret (v := .tuple #[.agg #[.int .i64 0, .int .i64 0, .int .i64 0, .slice none 0 0], .int .i64 900]) (by simp [results, Try.results11, go_sem]) rfl ⟨rfl, ?_⟩
  exact ((Below.refl _ w).alloc (Nat.le_refl _) _).drew
set_option maxRecDepth 100000 in
set_option maxHeartbeats 1600000 in
theorem un_far1 (s : ByteArray) (x : UInt8) (k : Nat) (w : World) (h : 4 ≤ s.size) (hm : s.size ≤ 9223372036854775807) (hk : (s[2]'(by omega)).toNat * 256 + (s[3]'(by omega)).toNat = k) (hx0 : s[0]'(by omega) = x) (c1 : 1 ≤ x.toNat) (c2 : x.toNat ≤ 8) (hr : Bap.resp (x.toNat : Int) = true) (hs : 5 ≤ k) (hs5 : s.size < k) :
    Calls Try.prog 11 #[.string s] w fun e w' => e = .returned (.tuple #[.agg #[.int .i64 0, .int .i64 0, .int .i64 0, .slice none 0 0], .int .i64 900]) ∧ Below w.heap.size w w' := by
  have hx := high_plus (s[2]'(by omega)) (s[3]'(by omega))
  rw [hk] at hx
  have p0 : 0 < s.size := by omega
  have p1 : 1 < s.size := by omega
  have p2 : 2 < s.size := by omega
  have p3 : 3 < s.size := by omega
  have q0 : (0 : Int) < (s.size : Int) := by omega
  have q1 : (1 : Int) < (s.size : Int) := by omega
  have q2 : (2 : Int) < (s.size : Int) := by omega
  have q3 : (3 : Int) < (s.size : Int) := by omega
  have e1 : wrap64 (x.toNat : Int) = (x.toNat : Int) := wrap64_nat _ (by have := x.toNat_lt; omega)
  have a1 := and_one8 x
  have rb : (((x.toNat : Int) % 2) == 0) = true := hr
  clear hr
  have hs4 : 4 ≤ k := by omega
  clear hk
  go_enter Try.func11, Try.ntmps11
  go_wp2_with fail
  go_region
  go_wp2_with fail
  refine bodyPost_ret (v := .tuple #[.agg #[.int .i64 0, .int .i64 0, .int .i64 0, .slice none 0 0], .int .i64 900]) (by simp [results, Try.results11, go_sem]) rfl ⟨rfl, ?_⟩
  exact ((Below.refl _ w).alloc (Nat.le_refl _) _).drew
set_option maxRecDepth 100000 in
set_option maxHeartbeats 1600000 in
theorem un_long0 (s : ByteArray) (x : UInt8) (k : Nat) (w : World) (h : 4 ≤ s.size) (hm : s.size ≤ 9223372036854775807) (hk : (s[2]'(by omega)).toNat * 256 + (s[3]'(by omega)).toNat = k) (hx0 : s[0]'(by omega) = x) (c1 : 1 ≤ x.toNat) (c2 : x.toNat ≤ 8) (hr : Bap.resp (x.toNat : Int) = false) (hs : k ≤ s.size) (hl : 2048 < k) :
    Calls Try.prog 11 #[.string s] w fun e w' => e = .returned (.tuple #[.agg #[.int .i64 0, .int .i64 0, .int .i64 0, .slice none 0 0], .int .i64 901]) ∧ Below w.heap.size w w' := by
  have hx := high_plus (s[2]'(by omega)) (s[3]'(by omega))
  rw [hk] at hx
  have p0 : 0 < s.size := by omega
  have p1 : 1 < s.size := by omega
  have p2 : 2 < s.size := by omega
  have p3 : 3 < s.size := by omega
  have q0 : (0 : Int) < (s.size : Int) := by omega
  have q1 : (1 : Int) < (s.size : Int) := by omega
  have q2 : (2 : Int) < (s.size : Int) := by omega
  have q3 : (3 : Int) < (s.size : Int) := by omega
  have e1 : wrap64 (x.toNat : Int) = (x.toNat : Int) := wrap64_nat _ (by have := x.toNat_lt; omega)
  have a1 := and_one8 x
  have rb : (((x.toNat : Int) % 2) == 0) = false := hr
  clear hr
  have l1 : 4 ≤ k := by omega
  have l2 : 5 ≤ k := by omega
  clear hk
  go_enter Try.func11, Try.ntmps11
  go_wp2_with fail
  go_region
  go_wp2_with fail
  go_region
  go_wp2_with fail
  refine bodyPost_ret (v := .tuple #[.agg #[.int .i64 0, .int .i64 0, .int .i64 0, .slice none 0 0], .int .i64 901]) (by simp [results, Try.results11, go_sem]) rfl ⟨rfl, ?_⟩
  exact (((Below.refl _ w).alloc (Nat.le_refl _) _).alloc (by simp) _).drew.drew
set_option maxRecDepth 100000 in
set_option maxHeartbeats 1600000 in
theorem un_long1 (s : ByteArray) (x z : UInt8) (k : Nat) (w : World) (h : 4 ≤ s.size) (hm : s.size ≤ 9223372036854775807) (hk : (s[2]'(by omega)).toNat * 256 + (s[3]'(by omega)).toNat = k) (hx0 : s[0]'(by omega) = x) (c1 : 1 ≤ x.toNat) (c2 : x.toNat ≤ 8) (hr : Bap.resp (x.toNat : Int) = true) (hs : k ≤ s.size) (hl : 2048 < k) (hz : s[4]'(by omega) = z) :
    Calls Try.prog 11 #[.string s] w fun e w' => e = .returned (.tuple #[.agg #[.int .i64 0, .int .i64 0, .int .i64 0, .slice none 0 0], .int .i64 901]) ∧ Below w.heap.size w w' := by
  have hx := high_plus (s[2]'(by omega)) (s[3]'(by omega))
  rw [hk] at hx
  have p0 : 0 < s.size := by omega
  have p1 : 1 < s.size := by omega
  have p2 : 2 < s.size := by omega
  have p3 : 3 < s.size := by omega
  have q0 : (0 : Int) < (s.size : Int) := by omega
  have q1 : (1 : Int) < (s.size : Int) := by omega
  have q2 : (2 : Int) < (s.size : Int) := by omega
  have q3 : (3 : Int) < (s.size : Int) := by omega
  have e1 : wrap64 (x.toNat : Int) = (x.toNat : Int) := wrap64_nat _ (by have := x.toNat_lt; omega)
  have a1 := and_one8 x
  have rb : (((x.toNat : Int) % 2) == 0) = true := hr
  clear hr
  have l1 : 4 ≤ k := by omega
  have l2 : 5 ≤ k := by omega
  have p4 : 4 < s.size := by omega
  have q4 : (4 : Int) < (s.size : Int) := by omega
  have e3 : wrap64 (z.toNat : Int) = (z.toNat : Int) := wrap64_nat _ (by have := z.toNat_lt; omega)
  clear hk
  go_enter Try.func11, Try.ntmps11
  go_wp2_with fail
  go_region
  go_wp2_with fail
  go_region
  go_wp2_with fail
  refine bodyPost_ret (v := .tuple #[.agg #[.int .i64 0, .int .i64 0, .int .i64 0, .slice none 0 0], .int .i64 901]) (by simp [results, Try.results11, go_sem]) rfl ⟨rfl, ?_⟩
  exact (((Below.refl _ w).alloc (Nat.le_refl _) _).alloc (by simp) _).drew.drew
set_option maxRecDepth 100000 in
set_option maxHeartbeats 3200000 in
theorem un_bad0 (s D : ByteArray) (x y : UInt8) (k : Nat) (q : Int) (os : List Opt.Op) (w : World) (h : 4 ≤ s.size) (hm : s.size ≤ 9223372036854775807) (hk : (s[2]'(by omega)).toNat * 256 + (s[3]'(by omega)).toNat = k) (hx0 : s[0]'(by omega) = x) (c1 : 1 ≤ x.toNat) (c2 : x.toNat ≤ 8) (hy0 : s[1]'(by omega) = y) (hr : Bap.resp (x.toNat : Int) = false) (hs : k ≤ s.size) (hl : k ≤ 2048) (l0 : 4 ≤ k) (hD : s.extract 4 k = D) (hq : q ≠ 0)
    (G : Hid (∀ W, Calls Try.prog 27 #[.string D] W fun e w' => ∃ v, e = .returned (.tuple #[v, .int .i64 q]) ∧ OwnsO W w' v os)) :
    Calls Try.prog 11 #[.string s] w fun e w' => e = .returned (.tuple #[.agg #[.int .i64 0, .int .i64 0, .int .i64 0, .slice none 0 0], .int .i64 900]) ∧ Below w.heap.size w w' := by
  have hq1 : (q != 0) = true := by simpa using hq
  clear hq
  have hx := high_plus (s[2]'(by omega)) (s[3]'(by omega))
  rw [hk] at hx
  have p0 : 0 < s.size := by omega
  have p1 : 1 < s.size := by omega
  have p2 : 2 < s.size := by omega
  have p3 : 3 < s.size := by omega
  have q0 : (0 : Int) < (s.size : Int) := by omega
  have q1 : (1 : Int) < (s.size : Int) := by omega
  have q2 : (2 : Int) < (s.size : Int) := by omega
  have q3 : (3 : Int) < (s.size : Int) := by omega
  have e1 : wrap64 (x.toNat : Int) = (x.toNat : Int) := wrap64_nat _ (by have := x.toNat_lt; omega)
  have a1 := and_one8 x
  have e2 : wrap64 (y.toNat : Int) = (y.toNat : Int) := wrap64_nat _ (by have := y.toNat_lt; omega)
  have rb : (((x.toNat : Int) % 2) == 0) = false := hr
  clear hr
  have g1 : (4 : Int) ≤ (k : Int) := by omega
  have g2 : (k : Int) ≤ (s.size : Int) := by omega
  have g3 : (0 : Int) ≤ (k : Int) := by omega
  clear hk
  go_enter Try.func11, Try.ntmps11
  go_wp2_with fail
  go_region
  go_wp2_with fail
  go_region
  go_wp2_with fail
  refine (G.out _).mono ?_
  rintro e w4 ⟨v, rfl, ho⟩
  obtain ⟨p, cap, rfl⟩ := ho.form2
  have hb4 := ho.2
  have hz4 : w.heap.size + 1 < w4.heap.size := (by have := hb4.size; simp at this; omega)
  have hz5 : w.heap.size < w4.heap.size := by omega
  obtain ⟨hc4, hf4⟩ := bcell hb4
  have m0 : w4.cell? ⟨w.heap.size, 0, none⟩ = some (.int .i64 0) := (hc4 _ _ (by simp; try omega)).trans (by simp [go_sem])
  have m1 : w4.cell? ⟨w.heap.size, 1, none⟩ = some (.int .i64 0) := (hc4 _ _ (by simp; try omega)).trans (by simp [go_sem])
  have m2 : w4.cell? ⟨w.heap.size, 2, none⟩ = some (.int .i64 0) := (hc4 _ _ (by simp; try omega)).trans (by simp [go_sem])
  have m3 : w4.cell? ⟨w.heap.size, 3, none⟩ = some (.slice none 0 0) := (hc4 _ _ (by simp; try omega)).trans (by simp [go_sem])
  have fz : ∀ o, w4.frozen? ⟨w.heap.size, o, none⟩ = false := fun o => (hf4 _ _ (by simp; try omega)).trans (by simp [go_sem])
  have fz2 : ∀ o, w4.frozen? ⟨w.heap.size + 1, o, none⟩ = false := fun o => (hf4 _ _ (by simp; try omega)).trans (by simp [go_sem])
  have HB := Lib.hid ((((Below.refl _ w).alloc (Nat.le_refl _) _).alloc (by simp) _).drew.drew.trans (hb4.mono (by simp; omega)))
  clear hc4 hf4 hb4 ho
  go_wp2_with fail
  refine bodyPost_ret (v := .tuple #[.agg #[.int .i64 0, .int .i64 0, .int .i64 0, .slice none 0 0], .int .i64 900]) (by simp [results, Try.results11, go_sem, m0, m1, m2, m3]) rfl ⟨rfl, ?_⟩
  repeat (first | (with_reducible exact HB.out) | (refine Below.setCell ?_ ?_ _; rotate_left; (first | exact Nat.le_refl _ | exact Nat.le_succ _)))
set_option maxRecDepth 100000 in
set_option maxHeartbeats 3200000 in
theorem un_bad1 (s D : ByteArray) (x y z : UInt8) (k : Nat) (q : Int) (os : List Opt.Op) (w : World) (h : 4 ≤ s.size) (hm : s.size ≤ 9223372036854775807) (hk : (s[2]'(by omega)).toNat * 256 + (s[3]'(by omega)).toNat = k) (hx0 : s[0]'(by omega) = x) (c1 : 1 ≤ x.toNat) (c2 : x.toNat ≤ 8) (hy0 : s[1]'(by omega) = y) (hr : Bap.resp (x.toNat : Int) = true) (hs : k ≤ s.size) (hl : k ≤ 2048) (l0 : 5 ≤ k) (hz : s[4]'(by omega) = z) (hD : s.extract 5 k = D) (hq : q ≠ 0)
    (G : Hid (∀ W, Calls Try.prog 27 #[.string D] W fun e w' => ∃ v, e = .returned (.tuple #[v, .int .i64 q]) ∧ OwnsO W w' v os)) :
    Calls Try.prog 11 #[.string s] w fun e w' => e = .returned (.tuple #[.agg #[.int .i64 0, .int .i64 0, .int .i64 0, .slice none 0 0], .int .i64 900]) ∧ Below w.heap.size w w' := by
  have hq1 : (q != 0) = true := by simpa using hq
  clear hq
  have hx := high_plus (s[2]'(by omega)) (s[3]'(by omega))
  rw [hk] at hx
  have p0 : 0 < s.size := by omega
  have p1 : 1 < s.size := by omega
  have p2 : 2 < s.size := by omega
  have p3 : 3 < s.size := by omega
  have q0 : (0 : Int) < (s.size : Int) := by omega
  have q1 : (1 : Int) < (s.size : Int) := by omega
  have q2 : (2 : Int) < (s.size : Int) := by omega
  have q3 : (3 : Int) < (s.size : Int) := by omega
  have e1 : wrap64 (x.toNat : Int) = (x.toNat : Int) := wrap64_nat _ (by have := x.toNat_lt; omega)
  have a1 := and_one8 x
  have e2 : wrap64 (y.toNat : Int) = (y.toNat : Int) := wrap64_nat _ (by have := y.toNat_lt; omega)
  have rb : (((x.toNat : Int) % 2) == 0) = true := hr
  clear hr
  have l1 : 4 ≤ k := by omega
  have p4 : 4 < s.size := by omega
  have q4 : (4 : Int) < (s.size : Int) := by omega
  have e3 : wrap64 (z.toNat : Int) = (z.toNat : Int) := wrap64_nat _ (by have := z.toNat_lt; omega)
  have g1 : (5 : Int) ≤ (k : Int) := by omega
  have g2 : (k : Int) ≤ (s.size : Int) := by omega
  have g3 : (0 : Int) ≤ (k : Int) := by omega
  clear hk
  go_enter Try.func11, Try.ntmps11
  go_wp2_with fail
  go_region
  go_wp2_with fail
  go_region
  go_wp2_with fail
  refine (G.out _).mono ?_
  rintro e w4 ⟨v, rfl, ho⟩
  obtain ⟨p, cap, rfl⟩ := ho.form2
  have hb4 := ho.2
  have hz4 : w.heap.size + 1 < w4.heap.size := (by have := hb4.size; simp at this; omega)
  have hz5 : w.heap.size < w4.heap.size := by omega
  obtain ⟨hc4, hf4⟩ := bcell hb4
  have m0 : w4.cell? ⟨w.heap.size, 0, none⟩ = some (.int .i64 0) := (hc4 _ _ (by simp; try omega)).trans (by simp [go_sem])
  have m1 : w4.cell? ⟨w.heap.size, 1, none⟩ = some (.int .i64 0) := (hc4 _ _ (by simp; try omega)).trans (by simp [go_sem])
  have m2 : w4.cell? ⟨w.heap.size, 2, none⟩ = some (.int .i64 0) := (hc4 _ _ (by simp; try omega)).trans (by simp [go_sem])
  have m3 : w4.cell? ⟨w.heap.size, 3, none⟩ = some (.slice none 0 0) := (hc4 _ _ (by simp; try omega)).trans (by simp [go_sem])
  have fz : ∀ o, w4.frozen? ⟨w.heap.size, o, none⟩ = false := fun o => (hf4 _ _ (by simp; try omega)).trans (by simp [go_sem])
  have fz2 : ∀ o, w4.frozen? ⟨w.heap.size + 1, o, none⟩ = false := fun o => (hf4 _ _ (by simp; try omega)).trans (by simp [go_sem])
  have HB := Lib.hid ((((Below.refl _ w).alloc (Nat.le_refl _) _).alloc (by simp) _).drew.drew.trans (hb4.mono (by simp; omega)))
  clear hc4 hf4 hb4 ho
  go_wp2_with fail
  refine bodyPost_ret (v := .tuple #[.agg #[.int .i64 0, .int .i64 0, .int .i64 0, .slice none 0 0], .int .i64 900]) (by simp [results, Try.results11, go_sem, m0, m1, m2, m3]) rfl ⟨rfl, ?_⟩
  repeat (first | (with_reducible exact HB.out) | (refine Below.setCell ?_ ?_ _; rotate_left; (first | exact Nat.le_refl _ | exact Nat.le_succ _)))
set_option maxRecDepth 100000 in
set_option maxHeartbeats 3200000 in
theorem un_good0 (s D : ByteArray) (x y : UInt8) (k : Nat) (os : List Opt.Op) (w : World) (h : 4 ≤ s.size) (hm : s.size ≤ 9223372036854775807) (hk : (s[2]'(by omega)).toNat * 256 + (s[3]'(by omega)).toNat = k) (hx0 : s[0]'(by omega) = x) (c1 : 1 ≤ x.toNat) (c2 : x.toNat ≤ 8) (hy0 : s[1]'(by omega) = y) (hr : Bap.resp (x.toNat : Int) = false) (hs : k ≤ s.size) (hl : k ≤ 2048) (l0 : 4 ≤ k) (hD : s.extract 4 k = D)
    (G : Hid (∀ W, Calls Try.prog 27 #[.string D] W fun e w' => ∃ v, e = .returned (.tuple #[v, .int .i64 0]) ∧ OwnsO W w' v os)) :
    Calls Try.prog 11 #[.string s] w fun e w' => ∃ v, e = .returned (.tuple #[.agg #[.int .i64 (x.toNat : Int), .int .i64 (y.toNat : Int), .int .i64 0, v], .int .i64 0]) ∧ OwnsO w w' v os := by
  have hx := high_plus (s[2]'(by omega)) (s[3]'(by omega))
  rw [hk] at hx
  have p0 : 0 < s.size := by omega
  have p1 : 1 < s.size := by omega
  have p2 : 2 < s.size := by omega
  have p3 : 3 < s.size := by omega
  have q0 : (0 : Int) < (s.size : Int) := by omega
  have q1 : (1 : Int) < (s.size : Int) := by omega
  have q2 : (2 : Int) < (s.size : Int) := by omega
  have q3 : (3 : Int) < (s.size : Int) := by omega
  have e1 : wrap64 (x.toNat : Int) = (x.toNat : Int) := wrap64_nat _ (by have := x.toNat_lt; omega)
  have a1 := and_one8 x
  have e2 : wrap64 (y.toNat : Int) = (y.toNat : Int) := wrap64_nat _ (by have := y.toNat_lt; omega)
  have rb : (((x.toNat : Int) % 2) == 0) = false := hr
  clear hr
  have g1 : (4 : Int) ≤ (k : Int) := by omega
  have g2 : (k : Int) ≤ (s.size : Int) := by omega
  have g3 : (0 : Int) ≤ (k : Int) := by omega
  clear hk
  go_enter Try.func11, Try.ntmps11
  go_wp2_with fail
  go_region
  go_wp2_with fail
  go_region
  go_wp2_with fail
  refine (G.out _).mono ?_
  rintro e w4 ⟨v, rfl, ho⟩
  obtain ⟨p, cap, rfl⟩ := ho.form2
  have hb4 := ho.2
  have hz4 : w.heap.size + 1 < w4.heap.size := (by have := hb4.size; simp at this; omega)
  have hz5 : w.heap.size < w4.heap.size := by omega
  obtain ⟨hc4, hf4⟩ := bcell hb4
  have m0 : w4.cell? ⟨w.heap.size, 0, none⟩ = some (.int .i64 0) := (hc4 _ _ (by simp; try omega)).trans (by simp [go_sem])
  have m1 : w4.cell? ⟨w.heap.size, 1, none⟩ = some (.int .i64 0) := (hc4 _ _ (by simp; try omega)).trans (by simp [go_sem])
  have m2 : w4.cell? ⟨w.heap.size, 2, none⟩ = some (.int .i64 0) := (hc4 _ _ (by simp; try omega)).trans (by simp [go_sem])
  have m3 : w4.cell? ⟨w.heap.size, 3, none⟩ = some (.slice none 0 0) := (hc4 _ _ (by simp; try omega)).trans (by simp [go_sem])
  have k0 : w4.cell? ⟨w.heap.size + 1, 0, none⟩ = some (.int .i64 (x.toNat : Int)) := (hc4 _ _ (by simp; try omega)).trans (by simp [go_sem])
  have k1 : w4.cell? ⟨w.heap.size + 1, 1, none⟩ = some (.int .i64 (y.toNat : Int)) := (hc4 _ _ (by simp; try omega)).trans (by simp [go_sem])
  have k2 : w4.cell? ⟨w.heap.size + 1, 2, none⟩ = some (.int .i64 0) := (hc4 _ _ (by simp; try omega)).trans (by simp [go_sem])
  have k3 : w4.cell? ⟨w.heap.size + 1, 3, none⟩ = some (.slice none 0 0) := (hc4 _ _ (by simp; try omega)).trans (by simp [go_sem])
  have fz : ∀ o, w4.frozen? ⟨w.heap.size, o, none⟩ = false := fun o => (hf4 _ _ (by simp; try omega)).trans (by simp [go_sem])
  have fz2 : ∀ o, w4.frozen? ⟨w.heap.size + 1, o, none⟩ = false := fun o => (hf4 _ _ (by simp; try omega)).trans (by simp [go_sem])
  have A0 := Lib.hid (ho.above (b := w.heap.size) (by simp; omega))
  have A1 := Lib.hid (ho.above (b := w.heap.size + 1) (by simp))
  have HO := Lib.hid (ho.base (w := w) (((Below.refl _ w).alloc (Nat.le_refl _) _).alloc (by simp) _).drew.drew)
  clear hc4 hf4 hb4 ho
  go_wp2_with fail
  refine bodyPost_ret (v := .tuple #[.agg #[.int .i64 (x.toNat : Int), .int .i64 (y.toNat : Int), .int .i64 0, .slice p os.length cap], .int .i64 0]) (by simp [results, Try.results11, go_sem, m0, m1, m2, m3]) rfl ⟨_, rfl, ?_⟩
  repeat (first | (with_reducible exact HO.out) | (refine OwnsO.setCell ?_ ?_ ?_ _; rotate_left; (first | exact Nat.le_refl _ | exact Nat.le_succ _); (first | exact A0.out | exact A1.out)))
set_option maxRecDepth 100000 in
set_option maxHeartbeats 3200000 in
theorem un_good1 (s D : ByteArray) (x y z : UInt8) (k : Nat) (os : List Opt.Op) (w : World) (h : 4 ≤ s.size) (hm : s.size ≤ 9223372036854775807) (hk : (s[2]'(by omega)).toNat * 256 + (s[3]'(by omega)).toNat = k) (hx0 : s[0]'(by omega) = x) (c1 : 1 ≤ x.toNat) (c2 : x.toNat ≤ 8) (hy0 : s[1]'(by omega) = y) (hr : Bap.resp (x.toNat : Int) = true) (hs : k ≤ s.size) (hl : k ≤ 2048) (l0 : 5 ≤ k) (hz : s[4]'(by omega) = z) (hD : s.extract 5 k = D)
    (G : Hid (∀ W, Calls Try.prog 27 #[.string D] W fun e w' => ∃ v, e = .returned (.tuple #[v, .int .i64 0]) ∧ OwnsO W w' v os)) :
    Calls Try.prog 11 #[.string s] w fun e w' => ∃ v, e = .returned (.tuple #[.agg #[.int .i64 (x.toNat : Int), .int .i64 (y.toNat : Int), .int .i64 (z.toNat : Int), v], .int .i64 0]) ∧ OwnsO w w' v os := by
  have hx := high_plus (s[2]'(by omega)) (s[3]'(by omega))
  rw [hk] at hx
  have p0 : 0 < s.size := by omega
  have p1 : 1 < s.size := by omega
  have p2 : 2 < s.size := by omega
  have p3 : 3 < s.size := by omega
  have q0 : (0 : Int) < (s.size : Int) := by omega
  have q1 : (1 : Int) < (s.size : Int) := by omega
  have q2 : (2 : Int) < (s.size : Int) := by omega
  have q3 : (3 : Int) < (s.size : Int) := by omega
  have e1 : wrap64 (x.toNat : Int) = (x.toNat : Int) := wrap64_nat _ (by have := x.toNat_lt; omega)
  have a1 := and_one8 x
  have e2 : wrap64 (y.toNat : Int) = (y.toNat : Int) := wrap64_nat _ (by have := y.toNat_lt; omega)
  have rb : (((x.toNat : Int) % 2) == 0) = true := hr
  clear hr
  have l1 : 4 ≤ k := by omega
  have p4 : 4 < s.size := by omega
  have q4 : (4 : Int) < (s.size : Int) := by omega
  have e3 : wrap64 (z.toNat : Int) = (z.toNat : Int) := wrap64_nat _ (by have := z.toNat_lt; omega)
  have g1 : (5 : Int) ≤ (k : Int) := by omega
  have g2 : (k : Int) ≤ (s.size : Int) := by omega
  have g3 : (0 : Int) ≤ (k : Int) := by omega
  clear hk
  go_enter Try.func11, Try.ntmps11
  go_wp2_with fail
  go_region
  go_wp2_with fail
  go_region
  go_wp2_with fail
  refine (G.out _).mono ?_
  rintro e w4 ⟨v, rfl, ho⟩
  obtain ⟨p, cap, rfl⟩ := ho.form2
  have hb4 := ho.2
  have hz4 : w.heap.size + 1 < w4.heap.size := (by have := hb4.size; simp at this; omega)
  have hz5 : w.heap.size < w4.heap.size := by omega
  obtain ⟨hc4, hf4⟩ := bcell hb4
  have m0 : w4.cell? ⟨w.heap.size, 0, none⟩ = some (.int .i64 0) := (hc4 _ _ (by simp; try omega)).trans (by simp [go_sem])
  have m1 : w4.cell? ⟨w.heap.size, 1, none⟩ = some (.int .i64 0) := (hc4 _ _ (by simp; try omega)).trans (by simp [go_sem])
  have m2 : w4.cell? ⟨w.heap.size, 2, none⟩ = some (.int .i64 0) := (hc4 _ _ (by simp; try omega)).trans (by simp [go_sem])
  have m3 : w4.cell? ⟨w.heap.size, 3, none⟩ = some (.slice none 0 0) := (hc4 _ _ (by simp; try omega)).trans (by simp [go_sem])
  have k0 : w4.cell? ⟨w.heap.size + 1, 0, none⟩ = some (.int .i64 (x.toNat : Int)) := (hc4 _ _ (by simp; try omega)).trans (by simp [go_sem])
  have k1 : w4.cell? ⟨w.heap.size + 1, 1, none⟩ = some (.int .i64 (y.toNat : Int)) := (hc4 _ _ (by simp; try omega)).trans (by simp [go_sem])
  have k2 : w4.cell? ⟨w.heap.size + 1, 2, none⟩ = some (.int .i64 (z.toNat : Int)) := (hc4 _ _ (by simp; try omega)).trans (by simp [go_sem])
  have k3 : w4.cell? ⟨w.heap.size + 1, 3, none⟩ = some (.slice none 0 0) := (hc4 _ _ (by simp; try omega)).trans (by simp [go_sem])
  have fz : ∀ o, w4.frozen? ⟨w.heap.size, o, none⟩ = false := fun o => (hf4 _ _ (by simp; try omega)).trans (by simp [go_sem])
  have fz2 : ∀ o, w4.frozen? ⟨w.heap.size + 1, o, none⟩ = false := fun o => (hf4 _ _ (by simp; try omega)).trans (by simp [go_sem])
  have A0 := Lib.hid (ho.above (b := w.heap.size) (by simp; omega))
  have A1 := Lib.hid (ho.above (b := w.heap.size + 1) (by simp))
  have HO := Lib.hid (ho.base (w := w) (((Below.refl _ w).alloc (Nat.le_refl _) _).alloc (by simp) _).drew.drew)
  clear hc4 hf4 hb4 ho
  go_wp2_with fail
  refine bodyPost_ret (v := .tuple #[.agg #[.int .i64 (x.toNat : Int), .int .i64 (y.toNat : Int), .int .i64 (z.toNat : Int), .slice p os.length cap], .int .i64 0]) (by simp [results, Try.results11, go_sem, m0, m1, m2, m3]) rfl ⟨_, rfl, ?_⟩
  repeat (first | (with_reducible exact HO.out) | (refine OwnsO.setCell ?_ ?_ ?_ _; rotate_left; (first | exact Nat.le_refl _ | exact Nat.le_succ _); (first | exact A0.out | exact A1.out)))
end Go.Proofs.Ytmonoicdejallaa.Z
