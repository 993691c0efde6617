/-
  Contract of the program's Get of options.
-/
import Derived.Test.YtmonoicdejallaaO4
namespace Go.Proofs.Ytmonoicdejallaa.O
open Go.RowKit
/-- A slice of new options, and a number beside it. -/
def GetPost (r : List Opt.Op × Int) (w : World) (e : Ending) (w' : World) : Prop := ∃ v, e = .returned (.tuple #[v, .int .i64 r.2]) ∧ OwnsO w w' v r.1
def strLen : Value → Nat
  | .string s => s.size
  | _ => 0
set_option maxHeartbeats 800000 in
theorem get_walk (l : List UInt8) (w : World) (hm : l.length ≤ 2048) : Calls Try.prog 35 #[.string ⟨l.toArray⟩] w (GetPost (Opt.get l) w) := by
  have HS := Lib.hid (Opt.get_some l hm)
  have HN := Lib.hid (Opt.get_bad l hm)
  go_enter Try.func35, Try.ntmps35
  go_wp2_with fail
  go_loopw [0, 4] (fun s o wr => ∃ (acc : List Opt.Op) (r : List UInt8), s = .string ⟨r.toArray⟩ ∧ OwnsO w wr o acc ∧ 2 * acc.length + r.length ≤ 2048 ∧ Hid (Opt.parse l = Opt.goes acc r)) (fun s _ _ => strLen s)
  case atStart => exact ⟨[], l, rfl, OwnsO.nil w, by simpa using hm, Lib.hid (Opt.goes_start l).symm⟩
  case round =>
    obtain ⟨acc, r, rfl, ho, hl, HR⟩ := hrel
    have HO := Lib.hid ho
    clear ho
    by_cases h0 : r = []
    · subst h0
      have HG : Hid (Opt.get l = (acc, 0)) := Lib.hid (HS.out acc (HR.out.trans (Opt.goes_end acc)))
      clear HS HN
      go_wp2_with fail
      go_ret2
      exact ⟨_, by rw [HG.out]; rfl, by rw [HG.out]; exact HO.out⟩
    · have hne : (!r.isEmpty) = true := by cases r with | nil => exact absurd rfl h0 | cons a b => rfl
      have hp := List.length_pos_iff.2 h0
      clear h0
      by_cases h1 : r.length < 2
      · have C := Lib.hid (fun w => first_short r w h1)
        have HG : Hid (Opt.get l = ([], 400)) := Lib.hid (HN.out (HR.out.trans (Opt.goes_one acc r (by omega))))
        clear HS HN
        unfold zeroO at C
        go_wp2_with fail
        refine (C.out _).mono ?_
        rintro e w1 ⟨rfl, hb1⟩
        have HB1 := Lib.hid (HO.out.2.trans (hb1.mono HO.out.2.size))
        clear hb1
        go_wp2_with fail
        go_ret2
        exact ⟨_, by rw [HG.out]; rfl, by rw [HG.out]; exact ⟨World.ownsRow_nil _ _ _ _, HB1.out.alloc HB1.out.size _⟩⟩
      · have h2 : 2 ≤ r.length := by omega
        clear h1
        by_cases hs : (r[1]'(by omega)).toNat < 2 ∨ r.length < (r[1]'(by omega)).toNat
        · have C := Lib.hid (fun w => first_bad r w h2 (by omega) hs)
          have HG : Hid (Opt.get l = ([], 400)) := Lib.hid (HN.out (HR.out.trans (Opt.goes_bad acc r h2 hs)))
          clear HS HN hs
          unfold zeroO at C
          go_wp2_with fail
          refine (C.out _).mono ?_
          rintro e w1 ⟨rfl, hb1⟩
          have HB1 := Lib.hid (HO.out.2.trans (hb1.mono HO.out.2.size))
          clear hb1
          go_wp2_with fail
          go_ret2
          exact ⟨_, by rw [HG.out]; rfl, by rw [HG.out]; exact ⟨World.ownsRow_nil _ _ _ _, HB1.out.alloc HB1.out.size _⟩⟩
        · have h3 : 2 ≤ (r[1]'(by omega)).toNat := by omega
          have h4 : (r[1]'(by omega)).toNat ≤ r.length := by omega
          have C := Lib.hid (fun w => first_good r w h2 (by omega) h3 h4)
          have HG := Lib.hid (HR.out.trans (Opt.goes_good acc r h2 h3 h4))
          have hlen : (r.drop (r[1]'(by omega)).toNat).length + 2 ≤ r.length := by rw [List.length_drop]; omega
          generalize hD : (r.take (r[1]'(by omega)).toNat).drop 2 = D at *
          generalize hQ : r.drop (r[1]'(by omega)).toNat = Q at *
          generalize (((r[0]'(by omega)).toNat : Int)) = z at *
          clear hs h3 h4 HR hD hQ
          go_wp2_with fail
          refine (C.out _).mono ?_
          rintro e w1 ⟨rfl, hb1⟩
          have HO1 := Lib.hid ((HO.out.below hb1).below ((Below.refl w1.heap.size w1).alloc (Nat.le_refl _) (.cells #[.int .i64 z, .string ⟨D.toArray⟩] 46)))
          have HO2 := Lib.hid (HO1.out.below ((Below.refl _ _).alloc (Nat.le_refl _) (.cells #[.int .i64 z, .string ⟨D.toArray⟩] 46)))
          have HL := Lib.hid (reads_lit_at (w1.alloc (.cells #[.int .i64 z, .string ⟨D.toArray⟩] 46)) (w1.heap.size + 1) (by simp) [(z, D)] #[.int .i64 z, .string ⟨D.toArray⟩] rfl)
          clear hb1
          go_wp2_with (at_builtin; refine wp_catO rfl _ _ rfl acc [(z, D)] HO2.out HL.out rfl rfl (by simp; omega) ?_)
          intro v' w2 ho2
          have HO3 := Lib.hid ho2
          clear ho2
          go_wp2_with fail
          go_roundw
          case rel => exact ⟨acc ++ [(z, D)], Q, rfl, HO3.out, by simp; omega, HG⟩
          case measure => simp [strLen, ByteArray.size]; omega
theorem oget_any (l : List UInt8) (w : World) (hm : l.length ≤ 9223372036854775807) : Calls Try.prog 35 #[.string ⟨l.toArray⟩] w (GetPost (Opt.get l) w) := by
  by_cases h : l.length ≤ 2048
  · exact get_walk l w h
  · have hlong : 2048 < l.length := by omega
    rw [Opt.get_long l hlong]
    clear h
    go_enter Try.func35, Try.ntmps35
    go_wp2_with fail
    go_ret2
    exact ⟨_, rfl, OwnsO.nil w⟩
end Go.Proofs.Ytmonoicdejallaa.O
