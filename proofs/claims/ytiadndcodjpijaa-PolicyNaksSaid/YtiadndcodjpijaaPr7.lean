/-
  The program's copies of options.
-/
import Derived.Test.YtiadndcodjpijaaPr6
namespace Go.Proofs.Ytiadndcodjpijaa.Pr
open Go.RowKit
def ov (z : Int) (d : List UInt8) : Value := .agg #[.int .i64 z, .string ⟨d.toArray⟩]
set_option maxHeartbeats 1600000 in
set_option maxRecDepth 100000 in
theorem copy_any (z : Int) (d : List UInt8) (hd : d.length ≤ 140737488355328) (w : World) : Calls Try.prog 27 #[ov z d] w fun e w' => e = .returned (ov z d) ∧ Below w.heap.size w w' := by
  have CA := Lib.hid fun W => clone_any ⟨d.toArray⟩ W (by rw [sz]; omega)
  obtain ⟨w2, hw2⟩ : ∃ w2, w2 = (w.alloc (.cells #[.int .i64 z, .string ⟨d.toArray⟩] 36)).alloc (.cells #[.int .i64 0, .string ⟨#[]⟩] 36) := ⟨_, rfl⟩
  have HB := Lib.hid (hw2 ▸ ((Below.refl w.heap.size w).alloc (Nat.le_refl _) (.cells #[.int .i64 z, .string ⟨d.toArray⟩] 36)).alloc (by simp) (.cells #[.int .i64 0, .string ⟨#[]⟩] 36) : Below w.heap.size w w2)
  have hA : Arr w.heap.size w2 [.int .i64 z, .string ⟨d.toArray⟩] := hw2 ▸ (Arr.new w [.int .i64 z, .string ⟨d.toArray⟩] 36).below ((Below.refl _ _).alloc (Nat.le_refl _) _)
  have hR : Arr (w.heap.size + 1) w2 [.int .i64 0, .string ⟨#[]⟩] := by
    have h := Arr.new (w.alloc (.cells #[.int .i64 z, .string ⟨d.toArray⟩] 36)) [.int .i64 0, .string ⟨#[]⟩] 36
    rw [hw2]
    simpa using h
  have F : Hid (∀ v1, Below w2.heap.size w2 v1 → v1.cell? ⟨w.heap.size, 0, none⟩ = some (.int .i64 z) ∧ v1.cell? ⟨w.heap.size, 1, none⟩ = some (.string ⟨d.toArray⟩) ∧
      v1.cell? ⟨w.heap.size + 1, 0, none⟩ = some (.int .i64 0) ∧ v1.cell? ⟨w.heap.size + 1, 1, none⟩ = some (.string ⟨#[]⟩) ∧ v1.frozen? ⟨w.heap.size + 1, 0, none⟩ = false ∧ v1.frozen? ⟨w.heap.size + 1, 1, none⟩ = false ∧ w.heap.size + 1 < v1.heap.size ∧ Below w2.heap.size w2 v1) := Lib.hid fun v1 hb => by
    have h1 := hA.below hb
    have h2 := hR.below hb
    exact ⟨h1.cell 0 _ rfl, h1.cell 1 _ rfl, h2.cell 0 _ rfl, h2.cell 1 _ rfl, h2.frozen 0, h2.frozen 1, h2.lt, hb⟩
  clear hA hR
  unfold ov
  go_enter Try.func27, Try.ntmps27
  go_wp2_with fail
  rw [← hw2]
  clear hw2
  obtain ⟨k0, k1, k2, k3, k4, k5, k6, k7⟩ := F.out w2 (Below.refl _ _)
  first | (go_region_with (go_at_call 26; (refine (CA.out _).mono ?_); rintro e v1 ⟨rfl, hb⟩; obtain ⟨m0, m1, m2, m3, m4, m5, m6, m7⟩ := F.out v1 ⟨hb.os, hb.tape, hb.output, hb.size, hb.block⟩)) | fail
  all_goals
    go_wp2_with fail
    have r0 : (v1.setCell ⟨w.heap.size + 1, 0, none⟩ (.int .i64 z)).cell? ⟨w.heap.size + 1, 0, none⟩ = some (.int .i64 z) := World.cell?_setCell_same _ _ _ m2
    have r1 : ((v1.setCell ⟨w.heap.size + 1, 0, none⟩ (.int .i64 z)).setCell ⟨w.heap.size + 1, 1, none⟩ (.string ⟨d.toArray⟩)).cell? ⟨w.heap.size + 1, 1, none⟩ = some (.string ⟨d.toArray⟩) := World.cell?_setCell_same _ _ _ (by rw [World.cell?_setCell_other _ _ _ _ (by simp)]; exact m3)
    refine bodyPost_ret (v := .agg #[.int .i64 z, .string ⟨d.toArray⟩]) (by simp [results, Try.results27, go_sem, r0, r1]) rfl ?_
    have hq := Below.setCell (p := ⟨w.heap.size + 1, 1, none⟩) (Below.setCell (p := ⟨w.heap.size + 1, 0, none⟩) (bel2 HB.out m7) (Nat.le_succ _) (.int .i64 z)) (Nat.le_succ _) (.string ⟨d.toArray⟩)
    first | exact ⟨rfl, hq⟩ | exact ⟨rfl, hq.drew⟩
set_option maxHeartbeats 1600000 in
set_option maxRecDepth 100000 in
theorem copied_any (v : Value) (os : List Opt.Op) (w : World) (hr : ReadsO w v os) (hl : os.length * 24 ≤ 140737488351232) (hd : ∀ o ∈ os, o.2.length ≤ 140737488355328) :
    Calls Try.prog 24 #[v] w fun e w' => ∃ u, e = .returned u ∧ OwnsO w w' u os := by
  have HR := Lib.hid hr
  obtain ⟨q, cap, b, off, rfl, _, _, hi, hc⟩ := hr.at
  have HI := Lib.hid hi
  have HC := Lib.hid hc
  have HD := Lib.hid hd
  clear hi hc hr hd
  go_enter Try.func24, Try.ntmps24
  go_wp2_with fail
  go_loopw [3, 8] (fun u i wr => ∃ k : Nat, k ≤ os.length ∧ i = .int .i64 (k : Int) ∧ OwnsO w wr u (os.take k)) (fun _ i _ => os.length - (intOf i).toNat)
  case atStart => exact ⟨0, Nat.zero_le _, rfl, OwnsO.nil w⟩
  case round =>
    obtain ⟨k, hk, rfl, ho⟩ := hrel
    have HO := Lib.hid ho
    clear ho
    by_cases hlt : k < os.length
    · have hi := HI.out k hlt
      obtain ⟨c0, c1⟩ := HC.out k hlt
      rw [← HO.out.2.cell (block_lt_of_cell c0)] at c0
      rw [← HO.out.2.cell (block_lt_of_cell c1)] at c1
      have hdk := HD.out os[k] (List.getElem_mem hlt)
      have HT : Hid (os.take (k + 1) = os.take k ++ [os[k]]) := Lib.hid (List.take_succ_eq_append_getElem hlt)
      have hlk : (os.take k).length = k := List.length_take_of_le hk
      generalize os[k] = o at *
      obtain ⟨z, d⟩ := o
      generalize os.take k = L at *
      obtain ⟨o8, ho8⟩ : ∃ o8, o8 = off + 2 * k := ⟨_, rfl⟩
      rw [← ho8] at hi c0 c1
      clear ho8
      have CP := Lib.hid fun W => copy_any z d hdk W
      unfold ov at CP
      go_wp2_with (first | (go_at_call 27; (refine (CP.out _).mono ?_); rintro e w2 ⟨rfl, hb2⟩; have ho2 := HO.out.below (bel2 ((Below.refl _ wr).alloc (Nat.le_refl _) _) hb2); have HO2 := Lib.hid (ho2.below ((Below.refl _ w2).alloc (Nat.le_refl _) (.cells #[.int .i64 z, .string ⟨d.toArray⟩] 36))); have HL := Lib.hid (reads_lit w2 [(z, d)] #[.int .i64 z, .string ⟨d.toArray⟩] rfl); clear ho2) | (at_builtin; refine wp_catO rfl _ _ rfl L [(z, d)] HO2.out HL.out rfl rfl (by simp; omega) ?_; intro v3 w3 ho3))
      have HO3 := Lib.hid ho3
      clear ho3
      go_roundw
      case rel => exact ⟨k + 1, by omega, by go_num, by rw [HT.out]; exact HO3.out⟩
      case measure => simp [intOf]; omega
    · obtain rfl : k = os.length := by omega
      rw [List.take_length] at HO
      go_wp2_with fail
      go_ret
      exact ⟨_, rfl, HO.out⟩
end Go.Proofs.Ytiadndcodjpijaa.Pr
