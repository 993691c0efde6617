/-
  The walk of the law of marks.
-/
import Derived.Test.YtpbmchgjjfaanaaV9
import Derived.Laws.Concat
namespace Go.Proofs.Ytpbmchgjjfaanaa.Stf
theorem grun_put_mark (z : Int) (l : List UInt8) : grun (put z l ++ [125]) = (true, l) := by rw [grun_snoc, grun_put]; rfl
theorem get_put_end (z : Int) (l : List UInt8) : get (put z l ++ [125]) = ([], 200) :=
  get_end _ (by rw [List.mem_append]; rintro (h | h); exact put_noflag z l h; exact absurd h (by decide)) (by rw [grun_put_mark])
theorem get_put_flag (z : Int) (l : List UInt8) : get (put z l ++ [125, 126]) = ([], 201) := get_flag _ (by simp)
theorem get_put_mark (z : Int) (l : List UInt8) (b : UInt8) (hb : b ≠ 126) : get (put z l ++ [125, b]) = (l ++ [b ^^^ 32], 0) := by
  have e : put z l ++ [125, b] = (put z l ++ [125]) ++ [b] := by simp
  have hr : grun (put z l ++ [125, b]) = (false, l ++ [b ^^^ 32]) := by rw [e, grun_snoc, grun_put_mark]; rfl
  have hn : 126 ∉ put z l ++ [125, b] := by
    simp only [List.mem_append, List.mem_cons, List.not_mem_nil, or_false, not_or]
    exact ⟨put_noflag z l, by decide, fun h => hb h.symm⟩
  rw [get_good _ hn (by rw [hr]), hr]
end Go.Proofs.Ytpbmchgjjfaanaa.Stf
namespace Go.Proofs.Ytpbmchgjjfaanaa
open Go.RowKit
set_option maxHeartbeats 800000 in
theorem walk_marks (s : ByteArray) (c : Int) (w : World) (hs : s.size ≤ 1048576) (_hz : (Lit.int .i64 c).wf = true) :
    Calls Try.prog 7 #[.string s, .int .i64 c] w fun e w' => e = .returned (.bool true) ∧ Below w.heap.size w w' := by
  obtain ⟨l, rfl⟩ : ∃ l : List UInt8, s = ⟨l.toArray⟩ := ⟨s.data.toList, by simp⟩
  rw [sz] at hs
  obtain ⟨b, hb⟩ := byte_of c
  have P1 := Lib.hid fun w => put_list l 0 w (by omega)
  have hT := (Stf.put_length 0 l).2
  obtain ⟨d, hd⟩ : ∃ d : UInt8, d = b ^^^ 32 := ⟨_, rfl⟩
  obtain ⟨U, hU⟩ : ∃ U : List UInt8, U = Stf.put 0 l ++ [125, b] := ⟨_, rfl⟩
  obtain ⟨E, hE⟩ : ∃ E : List UInt8, E = Stf.put 0 l ++ [125] := ⟨_, rfl⟩
  obtain ⟨V, hV⟩ : ∃ V : List UInt8, V = l ++ [d] := ⟨_, rfl⟩
  have g1 := fun w => get_list U w (by rw [hU]; simp; omega)
  have g2 := fun w => get_list E w (by rw [hE]; simp; omega)
  have e2 : Stf.get E = ([], 200) := by rw [hE, Stf.get_put_end]
  rw [e2] at g2
  have hcv := fun W => conv_new W [125, b] #[Value.int .u8 125, Value.int .u8 (c % 256)] (by rw [← hb]; rfl)
  rw [show ([125, b] : List UInt8).length = 2 from rfl] at hcv
  have hcv2 := fun W => conv_new W [d] #[Value.int .u8 (d.toNat : Int)] rfl
  rw [show ([d] : List UInt8).length = 1 from rfl] at hcv2
  have hx : bits BinOp.xor IntKind.u8 (c % 256) 32 = (d.toNat : Int) := by rw [← hb, turn_int, hd]
  have ea : ({ data := (Stf.put 0 l).toArray } : ByteArray) ++ { data := #[125, b] } = { data := U.toArray } := by rw [hU]; apply ByteArray.ext; simp [ByteArray.data_append]
  have eb : ({ data := (Stf.put 0 l).toArray } : ByteArray) ++ { data := #[125] } = { data := E.toArray } := by rw [hE]; apply ByteArray.ext; simp [ByteArray.data_append]
  have ec : ({ data := l.toArray } : ByteArray) ++ { data := #[d] } = { data := V.toArray } := by rw [hV]; apply ByteArray.ext; simp [ByteArray.data_append]
  have hqq : (V == V) = true := by simp
  have G2 := Lib.hid g2
  clear g2 e2 hE
  by_cases h : b = 126
  · have e1 : Stf.get U = ([], 201) := by rw [hU, h, Stf.get_put_flag]
    rw [e1] at g1
    have G1 := Lib.hid g1
    clear g1 e1
    have q1 : ((c % 256 : Int) == 126) = true := by rw [← hb]; exact byte_eq b 126 h
    clear hb h hU hd hV
    generalize Stf.put 0 l = T at *
    go_enter Try.func7, Try.ntmps7
    go_wp2_with fail
    refine (awake_any _).mono ?_
    rintro e w0 ⟨rfl, hb0⟩
    have B0 := Lib.hid hb0
    clear hb0
    go_wp2_with fail
    refine (P1.out _).mono ?_
    rintro e w1 ⟨rfl, hb1⟩
    have B1 := Lib.hid (bel2 B0.out hb1)
    clear hb1
    go_wp2_with fail
    refine (G1.out _).mono ?_
    rintro e w2 ⟨rfl, hb2⟩
    have B2 := Lib.hid (bel2 (B1.out.alloc B1.out.size _) hb2)
    clear hb2
    go_wp2_with fail
    refine (G2.out _).mono ?_
    rintro e w3 ⟨rfl, hb3⟩
    have B3 := Lib.hid (bel2 B2.out hb3)
    clear hb3
    go_wp2_with (go_at_call 15; refine (num_any _ _).mono ?_; rintro e w9 ⟨rfl, rfl⟩)
    go_ret
    exact ⟨rfl, B3.out⟩
  · have e1 : Stf.get U = (V, 0) := by rw [hU, hV, hd, Stf.get_put_mark _ _ _ h]
    rw [e1] at g1
    have G1 := Lib.hid g1
    clear g1 e1
    have q1 : ((c % 256 : Int) == 126) = false := by rw [← hb]; exact byte_ne b 126 h
    clear hb h hU hd hV
    generalize Stf.put 0 l = T at *
    go_enter Try.func7, Try.ntmps7
    go_wp2_with fail
    refine (awake_any _).mono ?_
    rintro e w0 ⟨rfl, hb0⟩
    have B0 := Lib.hid hb0
    clear hb0
    go_wp2_with fail
    refine (P1.out _).mono ?_
    rintro e w1 ⟨rfl, hb1⟩
    have B1 := Lib.hid (bel2 B0.out hb1)
    clear hb1
    go_wp2_with fail
    refine (G1.out _).mono ?_
    rintro e w2 ⟨rfl, hb2⟩
    have B2 := Lib.hid (bel2 (B1.out.alloc B1.out.size _) hb2)
    clear hb2
    go_wp2_with fail
    refine (G2.out _).mono ?_
    rintro e w3 ⟨rfl, hb3⟩
    have B3 := Lib.hid (bel2 B2.out hb3)
    clear hb3
    go_wp2_with (go_at_call 15; refine (num_any _ _).mono ?_; rintro e w9 ⟨rfl, rfl⟩)
    go_ret
    exact ⟨rfl, B3.out.alloc B3.out.size _⟩
end Go.Proofs.Ytpbmchgjjfaanaa
