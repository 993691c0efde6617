/-
  Slices of integers of the call's own, made one after another: written over; what is written over in one leaves the later one; a slice that came in read anew.
-/
import Derived.Test.YtokkecbnbojlnaaDoorSameI
namespace Go.Proofs.YtokkecbnbojlnaaDoor
open Go.RowKit
set_option maxHeartbeats 400000 in
theorem spoilI_any (v : Value) (zs : List Int) (w W : World) (h : OwnsI w W v zs) (hl : zs.length ≤ 4611686018427387904) :
    Calls Tryd.prog 14 #[v] W fun e W' => e = .returned (.tuple #[]) ∧ W.grownBy W' v.ownBlock := by
  by_cases h0 : zs.length = 0
  · obtain ⟨p, cap, rfl⟩ : ∃ p cap, v = .slice p 0 cap := by
      obtain ⟨p, cap, h⟩ := h.reads.form
      rw [h0] at h
      exact ⟨p, cap, h⟩
    clear h
    go_enter Tryd.func14, Tryd.ntmps14
    go_wp2_with fail
    go_loopw [2] (fun i wr => i = .int .i64 0 ∧ wr = W) (fun _ _ => 0)
    case atStart => exact ⟨rfl, rfl⟩
    case round =>
      obtain ⟨rfl, rfl⟩ := hrel
      go_wp2_with fail
      go_end0
      exact ⟨rfl, grown_self _ _⟩
  · obtain ⟨g, cap, rfl, hcap, _⟩ := h.form (by omega)
    have H := Lib.hid h.1
    have HL : Hid (∀ k, k < zs.length → ∃ z, (cellsI zs)[k]? = some (.int .i64 z)) := Lib.hid fun k hk => ⟨_, cellsI_at zs k hk⟩
    clear h h0
    generalize hn : zs.length = n at *
    go_enter Tryd.func14, Tryd.ntmps14
    go_wp2_with fail
    go_loopw [2] (fun i wr => ∃ k : Nat, k ≤ n ∧ i = .int .i64 k ∧ W.grownBy wr (some g) ∧ ∃ xs, wr.ownsRow w.heap.size 3 1 (.slice (some ⟨g, 0, none⟩) n cap) n xs ∧ ∀ j, k ≤ j → xs[j]? = (cellsI zs)[j]?) (fun i _ => n - (intOf i).toNat)
    case atStart => exact ⟨0, by omega, rfl, grown_self _ _, cellsI zs, H.out, fun _ _ => rfl⟩
    case round =>
      obtain ⟨k, hk, rfl, hg, xs, hx, hj⟩ := hrel
      have HG := Lib.hid hg
      have HX := Lib.hid hx
      have HJ := Lib.hid hj
      clear hg hx hj
      by_cases hlt : k < n
      · have hi := fun W => intI_index g 0 n cap k hlt W
        rw [Nat.zero_add] at hi
        obtain ⟨z, hz⟩ := HL.out k hlt
        have hc : wr.cell? ⟨g, k, none⟩ = some (.int .i64 z) := by
          rw [HX.out.cellAt k (by omega), HJ.out _ (Nat.le_refl _), hz]
        clear hz
        have hf := HX.out.frozenAt k
        have HX2 := Lib.hid fun u => HX.out.stored k u
        have HJ2 : Hid (∀ u j, k + 1 ≤ j → (xs.set k u)[j]? = (cellsI zs)[j]?) := Lib.hid fun u j h => by
          rw [List.getElem?_set_ne (by omega)]; exact HJ.out j (by omega)
        go_wp2_with fail
        go_roundw
        case rel => exact ⟨k + 1, by omega, by go_num, HG.out.trans (HX2.out _).2, _, (HX2.out _).1, HJ2.out _⟩
        case measure => simp [intOf]; omega
      · obtain rfl : k = n := by omega
        go_wp2_with fail
        go_end0
        exact ⟨rfl, HG.out⟩
theorem rowI_reads {W : World} {base : Nat} {v : Value} {zs : List Int} (h : W.ownsRow base 3 1 v zs.length (cellsI zs)) : ReadsI W v zs := by
  have hc := fun g hg => h.cells (g := g) hg
  rcases h.2 with ⟨rfl, h0⟩ | ⟨g, cap, cur, rfl, _, _, hn, _⟩
  · obtain rfl : zs = [] := List.length_eq_zero_iff.1 h0
    exact readsI_nil W
  · refine .inr ⟨g, 0, cap, rfl, hn, fun j u hj => ?_⟩
    have := hc g rfl j u hj
    rwa [add_at] at this
/-- What is written over in a slice made earlier leaves one made later as it was. -/
theorem laterI {w4 W W' : World} {c d : Value} {M : List Int} (hcl : ∀ k, c.ownBlock = some k → k < w4.heap.size) (hd : OwnsI w4 W d M) (hg : W.grownBy W' c.ownBlock) : ReadsI W' d M := by
  refine rowI_reads (hd.1.kept hg ?_)
  cases h : d.ownBlock with
  | none => exact .inl rfl
  | some k =>
    refine .inr fun e => ?_
    have h1 := hcl k e.symm
    have h2 := (hd.1.lt k h).1
    omega
end Go.Proofs.YtokkecbnbojlnaaDoor
