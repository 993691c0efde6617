/-
  Contract of the document's own Control, whole: packets with data; the ways together.
-/
import Derived.Test.YtoodhbdgnfmofaaC3
namespace Go.Proofs.Ytoodhbdgnfmofaa.C
open Go.RowKit
theorem box2_of {B : Nat} {w a : World} {x y : Value} {r : List Value} (h : Box B a (x :: y :: r)) (k : Below w.heap.size w a) :
    a.cell? ⟨B, 0, none⟩ = some x ∧ a.cell? ⟨B, 1, none⟩ = some y ∧ B < a.heap.size ∧ Below w.heap.size w a := ⟨h 0 _ rfl, h 1 _ rfl, h.lt, k⟩
set_option maxRecDepth 100000 in
set_option maxHeartbeats 400000 in
theorem rd_some0 (c i : Int) (u : Option Addr) (n cap : Nat) (d : List UInt8) (w : World) (g1 : c < 1) (h1 : 0 ≤ c) (h3 : 0 ≤ i) (h4 : i ≤ 255) (hn : 0 < n) :
    Calls Try.prog 10 #[.agg #[.int .i64 c, .int .i64 i, .slice u n cap, .string ⟨d.toArray⟩]] w fun e w' => e = .returned (.tuple #[.string ⟨#[]⟩, .int .i64 502]) ∧ Below w.heap.size w w' := by
  have h2 : c ≤ 255 := by omega
  have HX := Lib.hid (Box.new w [.int .i64 c, .int .i64 i, .slice u n cap, .string ⟨d.toArray⟩] 24)
  have HB := Lib.hid ((Below.refl w.heap.size w).alloc (Nat.le_refl _) (.cells #[.int .i64 c, .int .i64 i, .slice u n cap, .string ⟨d.toArray⟩] 24))
  go_enter Try.func10, Try.ntmps10
  go_wp2_with fail
  go_ret2
  exact ⟨rfl, HB.out⟩
set_option maxRecDepth 100000 in
set_option maxHeartbeats 400000 in
theorem rd_long0 (c i : Int) (u : Option Addr) (cap : Nat) (d : List UInt8) (w : World) (g1 : c < 1) (h1 : 0 ≤ c) (h3 : 0 ≤ i) (h4 : i ≤ 255) (hd : 2044 < d.length) (hd2 : d.length ≤ 4611686018427387904) :
    Calls Try.prog 10 #[.agg #[.int .i64 c, .int .i64 i, .slice u 0 cap, .string ⟨d.toArray⟩]] w fun e w' => e = .returned (.tuple #[.string ⟨#[]⟩, .int .i64 503]) ∧ Below w.heap.size w w' := by
  have h2 : c ≤ 255 := by omega
  have HX := Lib.hid (Box.new w [.int .i64 c, .int .i64 i, .slice u 0 cap, .string ⟨d.toArray⟩] 24)
  have HB := Lib.hid ((Below.refl w.heap.size w).alloc (Nat.le_refl _) (.cells #[.int .i64 c, .int .i64 i, .slice u 0 cap, .string ⟨d.toArray⟩] 24))
  go_enter Try.func10, Try.ntmps10
  go_wp2_with fail
  go_ret2
  exact ⟨rfl, HB.out⟩
set_option maxRecDepth 100000 in
set_option maxHeartbeats 1600000 in
theorem rd_good0 (c i : Int) (u : Option Addr) (cap : Nat) (d T0 A0 U : List UInt8) (w : World) (g1 : c < 1) (h1 : 0 ≤ c) (h3 : 0 ≤ i) (h4 : i ≤ 255) (hd : d.length ≤ 2044)
    (T : Hid (∀ W, Calls Try.prog 23 #[.int .i64 ((d.length : Int) + 4)] W fun e w' => e = .returned (.string ⟨T0.toArray⟩) ∧ Below W.heap.size W w'))
    (p q : UInt8) (hp : (p.toNat : Int) = c) (hq : (q.toNat : Int) = i) (r1 : O.Sums [p, q] T0 A0) (r2 : O.Sums A0 d U) :
    Calls Try.prog 10 #[.agg #[.int .i64 c, .int .i64 i, .slice u 0 cap, .string ⟨d.toArray⟩]] w fun e w' => e = .returned (.tuple #[.string ⟨U.toArray⟩, .int .i64 0]) ∧ Below w.heap.size w w' := by
  have h2 : c ≤ 255 := by omega
  unfold O.Sums at r1 r2
  have e1 : IntKind.i64.wrap ((d.length : Int) + 4) = (d.length : Int) + 4 := IntWalk.i64_in _ (by omega)
  have e2 : IntKind.u8.wrap c = c := by rw [IntKind.wrap_u8']; omega
  have e3 : IntKind.u8.wrap i = i := by rw [IntKind.wrap_u8']; omega
  have F := fun W B => conv_two W B p q c i hp hq
  obtain ⟨S0, hS0⟩ : ∃ S0, S0 = [p, q] := ⟨_, rfl⟩
  rw [← hS0] at F r1
  clear hp hq hS0
  have HX := Lib.hid (Box.new w [.int .i64 c, .int .i64 i, .slice u 0 cap, .string ⟨d.toArray⟩] 24)
  have HB := Lib.hid ((Below.refl w.heap.size w).alloc (Nat.le_refl _) (.cells #[.int .i64 c, .int .i64 i, .slice u 0 cap, .string ⟨d.toArray⟩] 24))
  have K2 := Lib.hid (box2_of HX.out HB.out)
  go_enter Try.func10, Try.ntmps10
  go_wp2_with fail
  go_region_held (fun a => a.cell? ⟨w.heap.size, 0, none⟩ = some (.int .i64 c) ∧ a.cell? ⟨w.heap.size, 1, none⟩ = some (.int .i64 i) ∧ w.heap.size < a.heap.size ∧ Below w.heap.size w a) (first | assumption | exact box2_drew K2.out | exact box2_alloc (by assumption) _ | exact box2_kept (by assumption) hb4)
    (first | (go_at_call 23; refine (T.out _).mono ?_; rintro e w4 ⟨rfl, hb4⟩; obtain ⟨hc4, hf4⟩ := bcell hb4))
  all_goals
    rename_i hH
    have H9 := Lib.hid hH
    clear hH
    go_wp2_with fail
    go_ret2
    exact ⟨rfl, H9.out.2.2.2⟩
set_option maxRecDepth 100000 in
set_option maxHeartbeats 400000 in
theorem rd_some5 (c i : Int) (u : Option Addr) (n cap : Nat) (d : List UInt8) (w : World) (g1 : 4 < c) (h2 : c ≤ 255) (h3 : 0 ≤ i) (h4 : i ≤ 255) (hn : 0 < n) :
    Calls Try.prog 10 #[.agg #[.int .i64 c, .int .i64 i, .slice u n cap, .string ⟨d.toArray⟩]] w fun e w' => e = .returned (.tuple #[.string ⟨#[]⟩, .int .i64 502]) ∧ Below w.heap.size w w' := by
  have h1 : 0 ≤ c := by omega
  have g2 : 1 ≤ c := by omega
  have HX := Lib.hid (Box.new w [.int .i64 c, .int .i64 i, .slice u n cap, .string ⟨d.toArray⟩] 24)
  have HB := Lib.hid ((Below.refl w.heap.size w).alloc (Nat.le_refl _) (.cells #[.int .i64 c, .int .i64 i, .slice u n cap, .string ⟨d.toArray⟩] 24))
  go_enter Try.func10, Try.ntmps10
  go_wp2_with fail
  go_ret2
  exact ⟨rfl, HB.out⟩
set_option maxRecDepth 100000 in
set_option maxHeartbeats 400000 in
theorem rd_long5 (c i : Int) (u : Option Addr) (cap : Nat) (d : List UInt8) (w : World) (g1 : 4 < c) (h2 : c ≤ 255) (h3 : 0 ≤ i) (h4 : i ≤ 255) (hd : 2044 < d.length) (hd2 : d.length ≤ 4611686018427387904) :
    Calls Try.prog 10 #[.agg #[.int .i64 c, .int .i64 i, .slice u 0 cap, .string ⟨d.toArray⟩]] w fun e w' => e = .returned (.tuple #[.string ⟨#[]⟩, .int .i64 503]) ∧ Below w.heap.size w w' := by
  have h1 : 0 ≤ c := by omega
  have g2 : 1 ≤ c := by omega
  have HX := Lib.hid (Box.new w [.int .i64 c, .int .i64 i, .slice u 0 cap, .string ⟨d.toArray⟩] 24)
  have HB := Lib.hid ((Below.refl w.heap.size w).alloc (Nat.le_refl _) (.cells #[.int .i64 c, .int .i64 i, .slice u 0 cap, .string ⟨d.toArray⟩] 24))
  go_enter Try.func10, Try.ntmps10
  go_wp2_with fail
  go_ret2
  exact ⟨rfl, HB.out⟩
set_option maxRecDepth 100000 in
set_option maxHeartbeats 1600000 in
theorem rd_good5 (c i : Int) (u : Option Addr) (cap : Nat) (d T0 A0 U : List UInt8) (w : World) (g1 : 4 < c) (h2 : c ≤ 255) (h3 : 0 ≤ i) (h4 : i ≤ 255) (hd : d.length ≤ 2044)
    (T : Hid (∀ W, Calls Try.prog 23 #[.int .i64 ((d.length : Int) + 4)] W fun e w' => e = .returned (.string ⟨T0.toArray⟩) ∧ Below W.heap.size W w'))
    (p q : UInt8) (hp : (p.toNat : Int) = c) (hq : (q.toNat : Int) = i) (r1 : O.Sums [p, q] T0 A0) (r2 : O.Sums A0 d U) :
    Calls Try.prog 10 #[.agg #[.int .i64 c, .int .i64 i, .slice u 0 cap, .string ⟨d.toArray⟩]] w fun e w' => e = .returned (.tuple #[.string ⟨U.toArray⟩, .int .i64 0]) ∧ Below w.heap.size w w' := by
  have h1 : 0 ≤ c := by omega
  have g2 : 1 ≤ c := by omega
  unfold O.Sums at r1 r2
  have e1 : IntKind.i64.wrap ((d.length : Int) + 4) = (d.length : Int) + 4 := IntWalk.i64_in _ (by omega)
  have e2 : IntKind.u8.wrap c = c := by rw [IntKind.wrap_u8']; omega
  have e3 : IntKind.u8.wrap i = i := by rw [IntKind.wrap_u8']; omega
  have F := fun W B => conv_two W B p q c i hp hq
  obtain ⟨S0, hS0⟩ : ∃ S0, S0 = [p, q] := ⟨_, rfl⟩
  rw [← hS0] at F r1
  clear hp hq hS0
  have HX := Lib.hid (Box.new w [.int .i64 c, .int .i64 i, .slice u 0 cap, .string ⟨d.toArray⟩] 24)
  have HB := Lib.hid ((Below.refl w.heap.size w).alloc (Nat.le_refl _) (.cells #[.int .i64 c, .int .i64 i, .slice u 0 cap, .string ⟨d.toArray⟩] 24))
  have K2 := Lib.hid (box2_of HX.out HB.out)
  go_enter Try.func10, Try.ntmps10
  go_wp2_with fail
  go_region_held (fun a => a.cell? ⟨w.heap.size, 0, none⟩ = some (.int .i64 c) ∧ a.cell? ⟨w.heap.size, 1, none⟩ = some (.int .i64 i) ∧ w.heap.size < a.heap.size ∧ Below w.heap.size w a) (first | assumption | exact box2_drew K2.out | exact box2_alloc (by assumption) _ | exact box2_kept (by assumption) hb4)
    (first | (go_at_call 23; refine (T.out _).mono ?_; rintro e w4 ⟨rfl, hb4⟩; obtain ⟨hc4, hf4⟩ := bcell hb4))
  all_goals
    rename_i hH
    have H9 := Lib.hid hH
    clear hH
    go_wp2_with fail
    go_ret2
    exact ⟨rfl, H9.out.2.2.2⟩
theorem byte_out (z : Int) (h : Ctl.byte z = false) : z < 0 ∨ 255 < z := by
  unfold Ctl.byte at h
  rw [Bool.and_eq_false_iff, decide_eq_false_iff_not, decide_eq_false_iff_not] at h
  omega
theorem conf_in (z : Int) (h : Ctl.conf z = true) : 1 ≤ z ∧ z ≤ 4 := by simpa [Ctl.conf] using h
theorem conf_out (z : Int) (h : Ctl.conf z = false) : z < 1 ∨ 4 < z := by
  unfold Ctl.conf at h
  rw [Bool.and_eq_false_iff, decide_eq_false_iff_not, decide_eq_false_iff_not] at h
  omega
theorem head_two (c i : Int) (n : Nat) : Ctl.head c i n = [UInt8.ofNat c.toNat, UInt8.ofNat i.toNat] ++ two n := rfl
/-- The contract of the document's own Control. -/
theorem rcontrol_any (c i : Int) (v : Value) (os : List Opt.Op) (d : List UInt8) (w : World) (hr : ReadsO w v os) (hl : os.length ≤ 4611686018427387904) (hd : d.length ≤ 4611686018427387904) (ho : ∀ o ∈ os, o.2.length ≤ 4611686018427387904) :
    Calls Try.prog 10 #[.agg #[.int .i64 c, .int .i64 i, v, .string ⟨d.toArray⟩]] w fun e w' => e = .returned (.tuple #[.string ⟨(Ctl.put (c, i, os, d)).toArray⟩, .int .i64 (Ctl.code (c, i, os, d))]) ∧ Below w.heap.size w w' := by
  have P : ∀ W, Below w.heap.size w W → _ := fun W hb => O.ropts_any v os W (hr.below hb) hl ho
  by_cases h1 : Ctl.byte c = true
  · by_cases h2 : Ctl.byte i = true
    · obtain ⟨c1, c2⟩ := byte_in c h1
      obtain ⟨i1, i2⟩ := byte_in i h2
      cases hc : Ctl.conf c
      · -- data
        obtain ⟨u, cap, b, off, rfl, _⟩ := hr.at
        by_cases hos : os = []
        · subst hos
          have hown : Ctl.own (c, i, [], d) = true := by simp [Ctl.own, hc]
          have hbody : Ctl.body (c, i, [], d) = d := by simp [Ctl.body, hc]
          by_cases hlong : 2044 < d.length
          · have e : Ctl.code (c, i, [], d) = 503 := by
              unfold Ctl.code
              rw [if_pos ⟨h1, h2⟩, if_pos ⟨Ctl.code_nil, hown⟩, hbody, if_neg (by omega)]
            rw [Ctl.put_bad _ (by omega), e]
            rcases conf_out c hc with g | g
            · exact rd_long0 c i u cap d w g c1 i1 i2 hlong hd
            · exact rd_long5 c i u cap d w g c2 i1 i2 hlong hd
          · have e : Ctl.code (c, i, [], d) = 0 := by
              unfold Ctl.code
              rw [if_pos ⟨h1, h2⟩, if_pos ⟨Ctl.code_nil, hown⟩, hbody, if_pos (by omega)]
            rw [Ctl.put_good _ e, e]
            unfold Ctl.wire
            rw [hbody, head_two]
            have T := fun W => two_any (d.length + 4) W (by omega)
            rw [show (((d.length + 4 : Nat)) : Int) = (d.length : Int) + 4 by omega] at T
            have s1 := O.sums [UInt8.ofNat c.toNat, UInt8.ofNat i.toNat] (two (d.length + 4)) (by simp [two])
            have s2 := O.sums ([UInt8.ofNat c.toNat, UInt8.ofNat i.toNat] ++ two (d.length + 4)) d (by simp [two]; omega)
            rcases conf_out c hc with g | g
            · exact rd_good0 c i u cap d _ _ _ w g c1 i1 i2 (by omega) (Lib.hid T) _ _ (Ctl.byte_ofNat c h1) (Ctl.byte_ofNat i h2) s1 s2
            · exact rd_good5 c i u cap d _ _ _ w g c2 i1 i2 (by omega) (Lib.hid T) _ _ (Ctl.byte_ofNat c h1) (Ctl.byte_ofNat i h2) s1 s2
        · have hown : Ctl.own (c, i, os, d) = false := by simp [Ctl.own, hc, hos]
          have e : Ctl.code (c, i, os, d) = 502 := by
            unfold Ctl.code
            rw [if_pos ⟨h1, h2⟩, if_neg (by rw [hown]; simp)]
          have hn : 0 < os.length := List.length_pos_iff.2 hos
          rw [Ctl.put_bad _ (by omega), e]
          rcases conf_out c hc with g | g
          · exact rd_some0 c i u _ cap d w g c1 i1 i2 hn
          · exact rd_some5 c i u _ cap d w g c2 i1 i2 hn
      · obtain ⟨g1, g2⟩ := conf_in c hc
        by_cases ho0 : Opt.code os = 0
        · obtain ⟨p1, p2⟩ := opt_put_len os ho0
          rw [ho0, p1] at P
          by_cases hd0 : d = []
          · subst hd0
            have hown : Ctl.own (c, i, os, []) = true := by simp [Ctl.own, hc]
            have hbody : Ctl.body (c, i, os, []) = Opt.wires os := by simp [Ctl.body, hc]
            by_cases hlong : 2044 < (Opt.wires os).length
            · have e : Ctl.code (c, i, os, []) = 503 := by
                unfold Ctl.code
                rw [if_pos ⟨h1, h2⟩, if_pos ⟨ho0, hown⟩, hbody, if_neg (by omega)]
              rw [Ctl.put_bad _ (by omega), e]
              exact rc_long c i v (Opt.wires os) [] w i1 i2 g1 g2 rfl hlong p2 (Lib.hid P)
            · have e : Ctl.code (c, i, os, []) = 0 := by
                unfold Ctl.code
                rw [if_pos ⟨h1, h2⟩, if_pos ⟨ho0, hown⟩, hbody, if_pos (by omega)]
              rw [Ctl.put_good _ e, e]
              unfold Ctl.wire
              rw [hbody, head_two]
              have T := fun W => two_any ((Opt.wires os).length + 4) W (by omega)
              rw [show ((((Opt.wires os).length + 4 : Nat)) : Int) = ((Opt.wires os).length : Int) + 4 by omega] at T
              have s1 := O.sums [UInt8.ofNat c.toNat, UInt8.ofNat i.toNat] (two ((Opt.wires os).length + 4)) (by simp [two])
              have s2 := O.sums ([UInt8.ofNat c.toNat, UInt8.ofNat i.toNat] ++ two ((Opt.wires os).length + 4)) (Opt.wires os) (by simp [two]; omega)
              exact rc_good c i v (Opt.wires os) [] _ _ _ w i1 i2 g1 g2 rfl (by omega) (Lib.hid P) (Lib.hid T) _ _ (Ctl.byte_ofNat c h1) (Ctl.byte_ofNat i h2) s1 s2
          · have hown : Ctl.own (c, i, os, d) = false := by simp [Ctl.own, hc, hd0]
            have e : Ctl.code (c, i, os, d) = 502 := by
              unfold Ctl.code
              rw [if_pos ⟨h1, h2⟩, if_neg (by rw [hown]; simp)]
            rw [Ctl.put_bad _ (by omega), e]
            exact rc_both c i v _ d w i1 i2 g1 g2 hd0 (Lib.hid P)
        · have e : Ctl.code (c, i, os, d) = 502 := by
            unfold Ctl.code
            rw [if_pos ⟨h1, h2⟩, if_neg (fun h => ho0 h.1)]
          rw [Ctl.put_bad _ (by omega), e]
          exact rc_opts c i v _ d _ w i1 i2 g1 g2 ho0 (Lib.hid P)
    · have h2 : Ctl.byte i = false := by simpa using h2
      have e : Ctl.code (c, i, os, d) = 501 := by
        unfold Ctl.code
        rw [if_neg (by rw [h2]; simp)]
      obtain ⟨c1, c2⟩ := byte_in c h1
      rw [Ctl.put_bad _ (by omega), e]
      rcases byte_out i h2 with g | g
      · exact rc_low2 c i v d w c1 c2 g
      · exact rc_high2 c i v d w c1 c2 g
  · have h1 : Ctl.byte c = false := by simpa using h1
    have e : Ctl.code (c, i, os, d) = 501 := by
      unfold Ctl.code
      rw [if_neg (by rw [h1]; simp)]
    rw [Ctl.put_bad _ (by omega), e]
    rcases byte_out c h1 with g | g
    · exact rc_low c i v d w g
    · exact rc_high c i v d w g
end Go.Proofs.Ytoodhbdgnfmofaa.C
