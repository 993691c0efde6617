/-
  The walk of the law of parts.
-/
import Derived.Test.YtpbmchgjjfaanaaV9
namespace Go.Proofs.Ytpbmchgjjfaanaa.Stf
theorem split_parts (A B : List UInt8) (hA : 126 ∉ A) (hB : 126 ∉ B) : split (([126] ++ A) ++ [126] ++ B) = (if A = [] then [] else [A], B) := by
  have e1 : srun ([126] ++ A) = ([], true, A) := by rw [srun_noflag _ _ hA]; rfl
  have e2 : srun (([126] ++ A) ++ [126]) = (if A = [] then [] else [A], true, []) := by
    rw [srun_flag, e1]
    by_cases h : A = [] <;> simp [h]
  rw [split, srun_noflag _ _ hB, e2]
  simp
end Go.Proofs.Ytpbmchgjjfaanaa.Stf
namespace Go.Proofs.Ytpbmchgjjfaanaa
open Go.RowKit
set_option maxHeartbeats 800000 in
/-- The pieces of the law, whatever they are. -/
theorem parts_walk (la lb lab A B S1 S2 S3 AB : List UInt8) (fs : List (List UInt8)) (z : Int) (w : World)
    (e1 : ({ data := #[126] } : ByteArray) ++ { data := A.toArray } = { data := S1.toArray }) (e2 : ({ data := S1.toArray } : ByteArray) ++ { data := #[126] } = { data := S2.toArray })
    (e3 : ({ data := S2.toArray } : ByteArray) ++ { data := B.toArray } = { data := S3.toArray }) (e4 : ({ data := la.toArray } : ByteArray) ++ { data := lb.toArray } = { data := lab.toArray })
    (e5 : ({ data := A.toArray } : ByteArray) ++ { data := B.toArray } = { data := AB.toArray })
    (pa : Hid (∀ w, Calls Try.prog 13 #[.string ⟨la.toArray⟩, .int .i64 z] w fun e w' => e = .returned (.string ⟨A.toArray⟩) ∧ Below w.heap.size w w'))
    (pb : Hid (∀ w, Calls Try.prog 13 #[.string ⟨lb.toArray⟩, .int .i64 z] w fun e w' => e = .returned (.string ⟨B.toArray⟩) ∧ Below w.heap.size w w'))
    (pab : Hid (∀ w, Calls Try.prog 13 #[.string ⟨lab.toArray⟩, .int .i64 z] w fun e w' => e = .returned (.string ⟨AB.toArray⟩) ∧ Below w.heap.size w w'))
    (sp : Hid (∀ w, Calls Try.prog 11 #[.string ⟨S3.toArray⟩] w fun e w' => ∃ p cap, e = .returned (.tuple #[.slice p fs.length cap, .string ⟨B.toArray⟩]) ∧ Below w.heap.size w w'))
    (b1 : la.length ≤ 1048576) (b2 : lb.length ≤ 1048576) (b3 : A.length ≤ 2097152) (b4 : B.length ≤ 2097152) (b5 : S1.length ≤ 2097153) (b6 : S2.length ≤ 2097154)
    (hf : (la = [] ∧ fs.length = 0) ∨ ((la == []) = false ∧ fs.length = 1)) :
    Calls Try.prog 8 #[.string ⟨la.toArray⟩, .string ⟨lb.toArray⟩, .int .i64 z] w fun e w' => e = .returned (.bool true) ∧ Below w.heap.size w w' := by
  have q1 : (AB == AB) = true := by simp
  have q2 : (B == B) = true := by simp
  rcases hf with ⟨rfl, h2⟩ | ⟨h1, h2⟩
  all_goals
    rw [h2] at sp
    have H2 := Lib.hid h2
    clear h2
    go_enter Try.func8, Try.ntmps8
    go_wp2_with fail
    refine (awake_any _).mono ?_
    rintro e w0 ⟨rfl, hb0⟩
    have B0 := Lib.hid hb0
    clear hb0
    go_wp2_with fail
    refine (pa.out _).mono ?_
    rintro e w1 ⟨rfl, hb1⟩
    have B1 := Lib.hid (bel2 B0.out hb1)
    clear hb1
    go_wp2_with fail
    refine (pb.out _).mono ?_
    rintro e w2 ⟨rfl, hb2⟩
    have B2 := Lib.hid (bel2 B1.out hb2)
    clear hb2
    go_wp2_with fail
    refine (sp.out _).mono ?_
    rintro e w3 ⟨p, cap, rfl, hb3⟩
    have B3 := Lib.hid (bel2 B2.out hb3)
    clear hb3
    go_wp2_with fail
    refine (pab.out _).mono ?_
    rintro e w4 ⟨rfl, hb4⟩
    have B4 := Lib.hid (bel2 B3.out hb4)
    clear hb4
    go_wp2_with fail
    refine (pa.out _).mono ?_
    rintro e w5 ⟨rfl, hb5⟩
    have B5 := Lib.hid (bel2 B4.out hb5)
    clear hb5
    go_wp2_with fail
    refine (pb.out _).mono ?_
    rintro e w6 ⟨rfl, hb6⟩
    have B6 := Lib.hid (bel2 B5.out hb6)
    clear hb6
    go_wp2_with fail
    refine (pb.out _).mono ?_
    rintro e w7 ⟨rfl, hb7⟩
    have B7 := Lib.hid (bel2 B6.out hb7)
    clear hb7
    go_wp2_with fail
    go_ret
    exact ⟨rfl, B7.out⟩
theorem split_len (l : List UInt8) (fs : List (List UInt8)) (r : List UInt8) (h : Stf.split l = (fs, r)) (hl : l.length ≤ 268435456) (w : World) :
    Calls Try.prog 11 #[.string ⟨l.toArray⟩] w fun e w' => ∃ p cap, e = .returned (.tuple #[.slice p fs.length cap, .string ⟨r.toArray⟩]) ∧ Below w.heap.size w w' := by
  refine (split_list l w hl).mono ?_
  rintro e w' ⟨v, rfl, ho⟩
  rw [h] at ho ⊢
  have hb := ho.2
  obtain ⟨p, cap, _, rfl, _⟩ := ho.reads
  exact ⟨p, cap, rfl, hb⟩
theorem walk_parts (a b : ByteArray) (z : Int) (w : World) (ha : a.size ≤ 1048576) (hb : b.size ≤ 1048576) (_hz : (Lit.int .i64 z).wf = true) :
    Calls Try.prog 8 #[.string a, .string b, .int .i64 z] w fun e w' => e = .returned (.bool true) ∧ Below w.heap.size w w' := by
  obtain ⟨la, rfl⟩ : ∃ l : List UInt8, a = ⟨l.toArray⟩ := ⟨a.data.toList, by simp⟩
  obtain ⟨lb, rfl⟩ : ∃ l : List UInt8, b = ⟨l.toArray⟩ := ⟨b.data.toList, by simp⟩
  rw [sz] at ha hb
  have h1 := Stf.put_length z la
  have h2 := Stf.put_length z lb
  have pab := fun w => put_list (la ++ lb) z w (by simp; omega)
  rw [Stf.put_append] at pab
  refine parts_walk la lb (la ++ lb) (Stf.put z la) (Stf.put z lb) _ _ _ _ (if Stf.put z la = [] then [] else [Stf.put z la]) z w (cat _ _) (cat _ _) (cat _ _) (cat _ _) (cat _ _)
    (Lib.hid fun w => put_list la z w (by omega)) (Lib.hid fun w => put_list lb z w (by omega)) (Lib.hid pab) (Lib.hid fun w => split_len _ _ _ (Stf.split_parts _ _ (Stf.put_noflag z la) (Stf.put_noflag z lb)) (by simp; omega) w) ha hb (by omega) (by omega) (by simp; omega) (by simp; omega) ?_
  cases la with
  | nil => exact .inl ⟨rfl, rfl⟩
  | cons x r =>
    refine .inr ⟨rfl, ?_⟩
    rw [if_neg (fun e => by rw [e] at h1; simp at h1)]
    rfl
end Go.Proofs.Ytpbmchgjjfaanaa
