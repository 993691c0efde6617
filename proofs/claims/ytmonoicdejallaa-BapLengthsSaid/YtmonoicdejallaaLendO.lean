/-
  Contracts of the laws' own helpers over options: copied, lent with marked room, kept, written over.
-/
import Derived.Test.YtmonoicdejallaaSameO
namespace Go.Proofs.Ytmonoicdejallaa
open Go.RowKit
def markO : Opt.Op := (77777, [])
theorem OwnsO.form {w W : World} {v : Value} {os : List Opt.Op} (h : OwnsO w W v os) (hn : 0 < os.length) : ∃ g cap, v = .slice (some ⟨g, 0, none⟩) os.length cap ∧ os.length ≤ cap ∧ w.heap.size ≤ g ∧ g < W.heap.size := by
  rcases h.1.2 with ⟨_, h0⟩ | ⟨g, cap, cur, hv, hb, hg, hl, _⟩
  · omega
  · refine ⟨g, cap, hv, hl, hb, ?_⟩
    rcases Nat.lt_or_ge g W.heap.size with hlt | hge
    · exact hlt
    · rw [Array.getElem?_eq_none hge] at hg; cases hg
theorem copyO_any (va : Value) (os : List Opt.Op) (w : World) (hr : ReadsO w va os) (hl : os.length * 24 ≤ 140737488355328) :
    Calls Try.prog 17 #[va] w fun e w' => ∃ v, e = .returned v ∧ OwnsO w w' v os := by
  have H0 := Lib.hid (OwnsO.made w)
  have HR := Lib.hid (hr.below ((Below.refl w.heap.size w).alloc (Nat.le_refl _) (.cells #[] 46)))
  clear hr
  go_enter Try.func17, Try.ntmps17
  go_wp2_with (at_builtin; refine wp_catO rfl _ _ rfl [] os H0.out HR.out rfl rfl (by simpa using hl) ?_)
  intro v' w2 ho2
  have HO := Lib.hid ho2
  clear ho2
  go_wp2_with fail
  go_ret
  exact ⟨_, rfl, HO.out⟩
theorem lendO_any (va : Value) (os : List Opt.Op) (w : World) (hr : ReadsO w va os) (hl : (os.length + 2) * 24 ≤ 140737488355328) :
    Calls Try.prog 7 #[va] w fun e w' => ∃ g cap, e = .returned (.slice (some ⟨g, 0, none⟩) os.length cap) ∧ OwnsO w w' (.slice (some ⟨g, 0, none⟩) (os.length + 2) cap) (os ++ [markO, markO]) ∧ os.length + 2 ≤ cap := by
  have HC := Lib.hid (copyO_any va os w hr (by omega))
  obtain ⟨p, cap0, b, off, rfl, _⟩ := hr.at
  clear hr
  go_enter Try.func7, Try.ntmps7
  go_wp2_with fail
  refine HC.out.mono ?_
  rintro e w1 ⟨v1, rfl, ho1⟩
  have HO := Lib.hid (ho1.below ((Below.refl w1.heap.size w1).alloc (Nat.le_refl _) (.cells #[.int .i64 77777, .string ⟨#[]⟩, .int .i64 77777, .string ⟨#[]⟩] 46)))
  have HL := Lib.hid (reads_lit w1 [markO, markO] #[.int .i64 77777, .string ⟨#[]⟩, .int .i64 77777, .string ⟨#[]⟩] rfl)
  clear ho1
  go_wp2_with (at_builtin; refine wp_catO rfl _ _ rfl os [markO, markO] HO.out HL.out rfl rfl (by simpa using hl) ?_)
  intro v' w2 ho2
  obtain ⟨g, cap, hv, hcap, _⟩ := ho2.form (by simp)
  have hlen : (os ++ [markO, markO]).length = os.length + 2 := by simp
  rw [hlen] at hv hcap
  subst hv
  have HO2 := Lib.hid ho2
  have h3 : os.length ≤ cap := by omega
  clear ho2 hlen
  go_wp2_with fail
  go_ret
  exact ⟨g, cap, rfl, HO2.out, hcap⟩
end Go.Proofs.Ytmonoicdejallaa
