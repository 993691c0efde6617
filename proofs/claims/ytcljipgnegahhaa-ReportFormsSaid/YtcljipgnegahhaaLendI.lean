/-
  Contracts of the laws' own helpers over integers: copied, lent with marked room, kept, written over.
-/
import Derived.Test.YtcljipgnegahhaaSameI
namespace Go.Proofs.Ytcljipgnegahhaa
open Go.RowKit
theorem copyI_any (va : Value) (zs : List Int) (w : World) (hr : ReadsI w va zs) (hl : zs.length * 8 ≤ 140737488355328) :
    Calls Try.prog 16 #[va] w fun e w' => ∃ v, e = .returned v ∧ OwnsI w w' v zs := by
  have H0 := Lib.hid (OwnsI.made w)
  have HR := Lib.hid (hr.below ((Below.refl w.heap.size w).alloc (Nat.le_refl _) (.cells #[] 3)))
  clear hr
  go_enter Try.func16, Try.ntmps16
  go_wp2_with (at_builtin; refine wp_catI rfl _ _ rfl [] zs H0.out HR.out rfl rfl (by simpa using hl) ?_)
  intro v' w2 ho2
  have HO := Lib.hid ho2
  clear ho2
  go_wp2_with fail
  go_ret
  exact ⟨_, rfl, HO.out⟩
theorem lendI_any (va : Value) (zs : List Int) (w : World) (hr : ReadsI w va zs) (hl : (zs.length + 2) * 8 ≤ 140737488355328) :
    Calls Try.prog 6 #[va] w fun e w' => ∃ g cap, e = .returned (.slice (some ⟨g, 0, none⟩) zs.length cap) ∧ OwnsI w w' (.slice (some ⟨g, 0, none⟩) (zs.length + 2) cap) (zs ++ [-7777, -8888]) ∧ zs.length + 2 ≤ cap := by
  have HC := Lib.hid (copyI_any va zs w hr (by omega))
  obtain ⟨p, cap0, b, off, rfl, _⟩ := hr.at
  clear hr
  go_enter Try.func6, Try.ntmps6
  go_wp2_with fail
  refine HC.out.mono ?_
  rintro e w1 ⟨v1, rfl, ho1⟩
  have HO := Lib.hid (ho1.below ((Below.refl w1.heap.size w1).alloc (Nat.le_refl _) (.cells #[.int .i64 (-7777), .int .i64 (-8888)] 3)))
  have HL := Lib.hid (readsI_lit w1 _ rfl [-7777, -8888] #[.int .i64 (-7777), .int .i64 (-8888)] rfl)
  clear ho1
  go_wp2_with (at_builtin; refine wp_catI rfl _ _ rfl zs [-7777, -8888] HO.out HL.out rfl rfl (by simpa using hl) ?_)
  intro v' w2 ho2
  obtain ⟨g, cap, hv, hcap, _⟩ := ho2.form (by simp)
  have hlen : (zs ++ [-7777, -8888]).length = zs.length + 2 := by simp
  rw [hlen] at hv hcap
  subst hv
  have HO2 := Lib.hid ho2
  have h3 : zs.length ≤ cap := by omega
  clear ho2 hlen
  go_wp2_with fail
  go_ret
  exact ⟨g, cap, rfl, HO2.out, hcap⟩
theorem slice_ints (g n cap : Nat) (z : Int) (hz : z = (n : Int) + 2) (hc : n + 2 ≤ cap) (W : World) : (Instr.slice 22 (.slice (some ⟨g, 0, none⟩) n cap) none (some (.int .i64 z)) none).run Try.prog W = .ok (.slice (some ⟨g, 0, none⟩) (n + 2) cap) W := by
  have hs : (sizeOf (Try.prog.elem 22)).run Try.prog W = .ok 1 W := Try.sizeOf3 W
  subst hz
  rw [run_slice_h (P := Try.prog) (w := W) 22 (some ⟨g, 0, none⟩) n cap Try.underlying22 .i64 _ (by omega) (by omega), hs]
  have e : ((n : Int) + 2).toNat = n + 2 := by omega
  simp only [Result.andThen, sliced, e]
  by_cases h : cap = 0
  · omega
  · simp [h, Addr.add]
/-- What was lent, without its marked room. -/
theorem lentI_reads {W : World} {g cap : Nat} {zs : List Int} (hc : zs.length + 2 ≤ cap) (h0 : ReadsI W (.slice (some ⟨g, 0, none⟩) (zs.length + 2) cap) (zs ++ [-7777, -8888])) :
    ReadsI W (.slice (some ⟨g, 0, none⟩) zs.length cap) zs ∧ W.cell? ⟨g, zs.length, none⟩ = some (.int .i64 (-7777)) ∧ W.cell? ⟨g, zs.length + 1, none⟩ = some (.int .i64 (-8888)) := by
  have hcell : ∀ j u, (cellsI (zs ++ [-7777, -8888]))[j]? = some u → W.cell? ⟨g, j, none⟩ = some u := by
    rcases h0 with ⟨h, _⟩ | ⟨b, off, cap', hv, _, hc⟩
    · simp at h
    · simp only [Value.slice.injEq, Option.some.injEq, Addr.mk.injEq] at hv
      obtain ⟨⟨rfl, rfl, _⟩, _⟩ := hv
      intro j u hj
      have := hc j u hj
      rwa [Nat.zero_add] at this
  refine ⟨.inr ⟨g, 0, cap, rfl, by omega, fun j u hj => ?_⟩, hcell _ _ (by simp [cellsI]), hcell _ _ (by simp [cellsI])⟩
  rw [Nat.zero_add]
  refine hcell j u ?_
  rw [cellsI_append, List.getElem?_append_left (List.getElem?_eq_some_iff.1 hj).1]
  exact hj
set_option maxHeartbeats 400000 in
theorem keptI_any (va : Value) (zs : List Int) (g cap : Nat) (W : World) (hc : zs.length + 2 ≤ cap) (h0 : ReadsI W (.slice (some ⟨g, 0, none⟩) (zs.length + 2) cap) (zs ++ [-7777, -8888])) (ha : ReadsI W va zs) (hl : zs.length ≤ 4611686018427387904) :
    Calls Try.prog 13 #[.slice (some ⟨g, 0, none⟩) zs.length cap, va] W fun e w' => e = .returned (.bool true) ∧ Below W.heap.size W w' := by
  obtain ⟨hlent, hc0, hc1⟩ := lentI_reads hc h0
  have C0 := Lib.hid hc0
  have C1 := Lib.hid hc1
  have HS := Lib.hid (sameI_yes hlent ha hl)
  have hsl := slice_ints g zs.length cap
  have hi0 := fun W => intI_index g 0 (zs.length + 2) cap zs.length (by omega) W
  have hi1 := fun W => intI_index g 0 (zs.length + 2) cap (zs.length + 1) (by omega) W
  rw [Nat.zero_add] at hi0
  rw [Nat.zero_add, show ((zs.length + 1 : Nat) : Int) = (zs.length : Int) + 1 by simp] at hi1
  obtain ⟨p, cap0, rfl⟩ := ha.form
  clear hlent h0 ha hc0 hc1
  generalize hn : zs.length = n at *
  generalize ho : n + 1 = o9 at *
  clear ho hn
  have hsl2 := fun W => hsl ((n : Int) + 2) rfl hc W
  clear hsl
  go_enter Try.func13, Try.ntmps13
  go_wp2_with (refine HS.out.mono ?_; rintro e w1 ⟨rfl, hb1⟩; have c0 := (hb1.cell (block_lt_of_cell C0.out)).trans C0.out; have c1 := (hb1.cell (block_lt_of_cell C1.out)).trans C1.out; have HB := Lib.hid hb1; clear hb1)
  go_ret
  exact ⟨rfl, HB.out⟩
set_option maxHeartbeats 400000 in
theorem spoilI_any (v : Value) (zs : List Int) (w W : World) (h : OwnsI w W v zs) (hl : zs.length ≤ 4611686018427387904) :
    Calls Try.prog 14 #[v] W fun e W' => e = .returned (.tuple #[]) ∧ W.grownBy W' v.ownBlock := by
  by_cases h0 : zs.length = 0
  · obtain ⟨p, cap, rfl⟩ : ∃ p cap, v = .slice p 0 cap := by
      obtain ⟨p, cap, h⟩ := h.reads.form
      rw [h0] at h
      exact ⟨p, cap, h⟩
    clear h
    go_enter Try.func14, Try.ntmps14
    go_wp2_with fail
    go_loopw [2] (fun i wr => i = .int .i64 0 ∧ wr = W) (fun _ _ => 0)
    case atStart => exact ⟨rfl, rfl⟩
    case round =>
      obtain ⟨rfl, rfl⟩ := hrel
      go_wp2_with fail
      go_end0
      exact ⟨rfl, grown_self _ _⟩
  · obtain ⟨g, cap, rfl, hcap, _⟩ := h.form (by omega)
    have H := Lib.hid h.1
    have HL : Hid (∀ k, k < zs.length → ∃ z, (cellsI zs)[k]? = some (.int .i64 z)) := Lib.hid fun k hk => ⟨_, cellsI_at zs k hk⟩
    clear h h0
    generalize hn : zs.length = n at *
    go_enter Try.func14, Try.ntmps14
    go_wp2_with fail
    go_loopw [2] (fun i wr => ∃ k : Nat, k ≤ n ∧ i = .int .i64 k ∧ W.grownBy wr (some g) ∧ ∃ xs, wr.ownsRow w.heap.size 3 1 (.slice (some ⟨g, 0, none⟩) n cap) n xs ∧ ∀ j, k ≤ j → xs[j]? = (cellsI zs)[j]?) (fun i _ => n - (intOf i).toNat)
    case atStart => exact ⟨0, by omega, rfl, grown_self _ _, cellsI zs, H.out, fun _ _ => rfl⟩
    case round =>
      obtain ⟨k, hk, rfl, hg, xs, hx, hj⟩ := hrel
      have HG := Lib.hid hg
      have HX := Lib.hid hx
      have HJ := Lib.hid hj
      clear hg hx hj
      by_cases hlt : k < n
      · have hi := fun W => intI_index g 0 n cap k hlt W
        rw [Nat.zero_add] at hi
        obtain ⟨z, hz⟩ := HL.out k hlt
        have hc : wr.cell? ⟨g, k, none⟩ = some (.int .i64 z) := by
          rw [HX.out.cellAt k (by omega), HJ.out _ (Nat.le_refl _), hz]
        clear hz
        have hf := HX.out.frozenAt k
        have HX2 := Lib.hid fun u => HX.out.stored k u
        have HJ2 : Hid (∀ u j, k + 1 ≤ j → (xs.set k u)[j]? = (cellsI zs)[j]?) := Lib.hid fun u j h => by
          rw [List.getElem?_set_ne (by omega)]; exact HJ.out j (by omega)
        go_wp2_with fail
        go_roundw
        case rel => exact ⟨k + 1, by omega, by go_num, HG.out.trans (HX2.out _).2, _, (HX2.out _).1, HJ2.out _⟩
        case measure => simp [intOf]; omega
      · obtain rfl : k = n := by omega
        go_wp2_with fail
        go_end0
        exact ⟨rfl, HG.out⟩
end Go.Proofs.Ytcljipgnegahhaa
