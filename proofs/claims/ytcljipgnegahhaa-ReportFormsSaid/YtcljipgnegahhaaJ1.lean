/-
  Contracts: isBeyond, the library's ContainsFunc at it.
-/
import Derived.Test.YtcljipgnegahhaaFirst
import Derived.Test.YtcljipgnegahhaaJMath
import Derived.Shelf.RegionOpenPlain
namespace Go.Proofs.Ytcljipgnegahhaa.J
open Go.RowKit
theorem beyond_any (z : Int) (W : World) :
    Calls Try.prog 18 #[.int .i64 z] W fun e w' => e = .returned (.bool (!Rep.ok z)) ∧ W = w' := by
  obtain ⟨m, hm⟩ : ∃ m, m = z % 4294967296 := ⟨_, rfl⟩
  have b1 : 0 ≤ m := by omega
  have b2 : m ≤ 4294967295 := by omega
  have hk : Rep.ok z = (z == m) := by
    unfold Rep.ok
    rw [Bool.eq_iff_iff]
    simp only [Bool.and_eq_true, decide_eq_true_eq, beq_iff_eq]
    omega
  rw [hk]
  cases hq : (z == m)
  all_goals
    have hb : (z != m) = !(z == m) := rfl
    rw [hq] at hb
    simp only [Bool.not_true, Bool.not_false] at hb ⊢
    have h0 : z % 4294967296 = m := hm.symm
    clear hk hm
    go_enter Try.func18, Try.ntmps18
    go_wp2_with fail
    go_ret
    exact ⟨rfl, rfl⟩
theorem bad_any (zs : List Int) : zs.any (fun z => !Rep.ok z) = !(zs.all Rep.ok) := by
  induction zs with
  | nil => rfl
  | cons o r ih => simp only [List.any_cons, List.all_cons, ih, Bool.not_and]
set_option maxHeartbeats 400000 in
theorem contains_any (v : Value) (zs : List Int) (w : World) (hr : ReadsI w v zs) (hl : zs.length ≤ 4611686018427387904) :
    Calls Try.prog 17 #[v, .func (.func 18) #[] #[]] w fun e w' => e = .returned (.bool (!(zs.all Rep.ok))) ∧ Below w.heap.size w w' := by
  rw [← bad_any, ← first_any]
  have I := Lib.hid (indexI_any 18 #[] (fun z => !Rep.ok z) v zs w hr hl (enters_of Try.func18 (by kernel_rfl) rfl)
    (Lib.hid fun W o hb _ => (beyond_any o W).mono fun _ _ ⟨h1, h2⟩ => ⟨h1, h2 ▸ hb⟩))
  generalize first (fun z => !Rep.ok z) zs = z at *
  clear hr
  go_enter Try.func17, Try.ntmps17
  go_wp2_with fail
  refine I.out.mono ?_
  rintro e w1 ⟨rfl, hb1⟩
  have HB2 := Lib.hid hb1
  clear hb1
  go_wp2_with fail
  go_ret
  exact ⟨rfl, HB2.out⟩
end Go.Proofs.Ytcljipgnegahhaa.J
