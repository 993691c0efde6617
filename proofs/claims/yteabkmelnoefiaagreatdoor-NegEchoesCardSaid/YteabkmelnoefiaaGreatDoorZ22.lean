/-
  Stage 15: contracts of a link's copy, of what a side tells of itself, of its last request.
-/
import Derived.Test.YteabkmelnoefiaaGreatDoorZ21
import Derived.Test.YteabkmelnoefiaaGreatDoorZ05
import Derived.Deep.QuietTactic
import Derived.BigQuiet
import Derived.Deep.WholeRow
import Derived.Deep.DeepCutAuto
namespace Go.Proofs.YteabkmelnoefiaaGreatDoor.Ne
open Go.RowKit
set_option maxRecDepth 100000
set_option maxHeartbeats 1600000 in
theorem copyOf_any (l : Pol.Lk) (hd : l.disc.length ≤ 281474976710656) (w : World) : Calls Tryz.prog 31 #[.agg (Pl.lcs l).toArray] w fun e w' => e = .returned (Pl.lv l) ∧ Below w.heap.size w w' := by
  have CA := Lib.hid fun W => clone_any ⟨l.disc.toArray⟩ W (by rw [sz]; omega)
  obtain ⟨w1, hw1⟩ : ∃ w1, w1 = (w.alloc (.cells (Pl.lcs l).toArray 23)).alloc (.cells #[.int .i64 0, .int .i64 0, .int .i64 0, .bool false, .string ⟨#[]⟩, .int .i64 0] 23) := ⟨_, rfl⟩
  have HB : Hid (Below w.heap.size w w1) := Lib.hid (hw1 ▸ ((Below.refl w.heap.size w).alloc (Nat.le_refl _) _).alloc (by simp) _)
  have L1 : Hid (Pl.Lnk w.heap.size w1 l) := Lib.hid (hw1 ▸ (Pl.Lnk.new w l).below ((Below.refl _ _).alloc (Nat.le_refl _) _))
  have R1 : Hid (Pl.Lnk (w.heap.size + 1) w1 Pol.zero) := Lib.hid (hw1 ▸ Pl.Lnk.new_at (w.alloc (.cells (Pl.lcs l).toArray 23)) Pol.zero (w.heap.size + 1) (by simp))
  have c4 := Arr.cell L1.out 4 _ rfl
  clear hd
  go_enter Tryz.func31, Tryz.ntmps31
  go_upto_region 1 with (fail)
  rw [← hw1]
  clear hw1
  go_wp2_with (first | (go_at_call 50; (refine (CA.out _).mono ?_); rintro e v1 ⟨rfl, hb⟩; have L2 := Lib.hid (L1.out.below hb); have R2 := Lib.hid (R1.out.below hb); have HB2 := Lib.hid (bel2 HB.out hb); have L3 : Hid (Pl.Lnk w.heap.size (v1.setCell ⟨w.heap.size, 4, none⟩ (.string ⟨l.disc.toArray⟩)) l) := Lib.hid (Arr.set L2.out 4 _); have R3 : Hid (Pl.Lnk (w.heap.size + 1) (v1.setCell ⟨w.heap.size, 4, none⟩ (.string ⟨l.disc.toArray⟩)) Pol.zero) := Lib.hid (R2.out.grown (grown_cell v1 ⟨w.heap.size, 4, none⟩ _) (by simp)); have HB3 : Hid (Below w.heap.size w (v1.setCell ⟨w.heap.size, 4, none⟩ (.string ⟨l.disc.toArray⟩))) := Lib.hid (HB2.out.setCell (Nat.le_refl _) _); have m4 := Arr.cell L2.out 4 _ rfl; have f4 := Arr.frozen L2.out 4; clear hb) | (refine Pl.step_link rfl _ rfl w.heap.size l rfl L3.out ?_) | (refine Pl.step_keep rfl _ _ rfl (w.heap.size + 1) Pol.zero l rfl rfl R3.out ?_; intro w8 n8 g8; have HZ := Lib.hid n8; have HB8 := Lib.hid (below_of_grown HB3.out g8 (Nat.le_succ _) rfl); clear n8 g8))
  have m0 := HZ.out.cell 0 _ rfl
  have m1 := HZ.out.cell 1 _ rfl
  have m2 := HZ.out.cell 2 _ rfl
  have m3 := HZ.out.cell 3 _ rfl
  have m4 := HZ.out.cell 4 _ rfl
  have m5 := HZ.out.cell 5 _ rfl
  refine bodyPost_ret (v := Pl.lv l) (by simp [results, Tryz.results31, go_sem, m0, m1, m2, m3, m4, m5, Pl.lv]) rfl ⟨rfl, HB8.out⟩
set_option maxHeartbeats 1600000 in
theorem own_any (B : Nat) (m : Mem) (w : World) (h : Rg B w m) (hd : m.own.disc.length ≤ 281474976710656) : Calls Tryz.prog 25 #[.pointer (some ⟨B, 0, none⟩)] w fun e w' => e = .returned (Pl.lv m.own) ∧ Below w.heap.size w w' := by
  have CO := Lib.hid fun W => copyOf_any m.own hd W
  obtain ⟨w1, hw1⟩ : ∃ w1, w1 = w.alloc (.cells #[.int .i64 0, .int .i64 0, .int .i64 0, .bool false, .string ⟨#[]⟩, .int .i64 0] 23) := ⟨_, rfl⟩
  have HB : Hid (Below w.heap.size w w1) := Lib.hid (hw1 ▸ ((Below.refl w.heap.size w).alloc (Nat.le_refl _) _))
  have R1 : Hid (Pl.Lnk w.heap.size w1 Pol.zero) := Lib.hid (hw1 ▸ Pl.Lnk.new w Pol.zero)
  have H1 := Lib.hid (h.below HB.out)
  have HL := Lib.hid H1.out.own
  have hlt : B < w1.heap.size := H1.out.lt
  clear h hd
  go_enter Tryz.func25, Tryz.ntmps25
  go_upto_region 1 with (fail)
  rw [← hw1]
  clear hw1
  go_wp2_with (first | (refine wpList_load rfl 23 _ rfl ⟨B, 3, none⟩ _ rfl HL.out ?_) | (go_at_call 31; (refine (CO.out _).mono ?_); rintro e v1 ⟨rfl, hb⟩; have R2 := Lib.hid (R1.out.below hb); have HB2 := Lib.hid (bel2 HB.out hb); clear hb) | (refine Pl.step_keep rfl _ _ rfl w.heap.size Pol.zero m.own rfl rfl R2.out ?_; intro w8 n8 g8; have HZ := Lib.hid n8; have HB8 := Lib.hid (below_of_grown HB2.out g8 (Nat.le_refl _) rfl); clear n8 g8))
  have m0 := HZ.out.cell 0 _ rfl
  have m1 := HZ.out.cell 1 _ rfl
  have m2 := HZ.out.cell 2 _ rfl
  have m3 := HZ.out.cell 3 _ rfl
  have m4 := HZ.out.cell 4 _ rfl
  have m5 := HZ.out.cell 5 _ rfl
  refine bodyPost_ret (v := Pl.lv m.own) (by simp [results, Tryz.results25, go_sem, m0, m1, m2, m3, m4, m5, Pl.lv]) rfl ⟨rfl, HB8.out⟩
set_option maxHeartbeats 1600000 in
theorem other_any (B : Nat) (m : Mem) (w : World) (h : Rg B w m) (hd : m.other.disc.length ≤ 281474976710656) : Calls Tryz.prog 26 #[.pointer (some ⟨B, 0, none⟩)] w fun e w' => e = .returned (Pl.lv m.other) ∧ Below w.heap.size w w' := by
  have CO := Lib.hid fun W => copyOf_any m.other hd W
  obtain ⟨w1, hw1⟩ : ∃ w1, w1 = w.alloc (.cells #[.int .i64 0, .int .i64 0, .int .i64 0, .bool false, .string ⟨#[]⟩, .int .i64 0] 23) := ⟨_, rfl⟩
  have HB : Hid (Below w.heap.size w w1) := Lib.hid (hw1 ▸ ((Below.refl w.heap.size w).alloc (Nat.le_refl _) _))
  have R1 : Hid (Pl.Lnk w.heap.size w1 Pol.zero) := Lib.hid (hw1 ▸ Pl.Lnk.new w Pol.zero)
  have H1 := Lib.hid (h.below HB.out)
  have HL := Lib.hid H1.out.other
  have hlt : B < w1.heap.size := H1.out.lt
  clear h hd
  go_enter Tryz.func26, Tryz.ntmps26
  go_upto_region 1 with (fail)
  rw [← hw1]
  clear hw1
  go_wp2_with (first | (refine wpList_load rfl 23 _ rfl ⟨B, 9, none⟩ _ rfl HL.out ?_) | (go_at_call 31; (refine (CO.out _).mono ?_); rintro e v1 ⟨rfl, hb⟩; have R2 := Lib.hid (R1.out.below hb); have HB2 := Lib.hid (bel2 HB.out hb); clear hb) | (refine Pl.step_keep rfl _ _ rfl w.heap.size Pol.zero m.other rfl rfl R2.out ?_; intro w8 n8 g8; have HZ := Lib.hid n8; have HB8 := Lib.hid (below_of_grown HB2.out g8 (Nat.le_refl _) rfl); clear n8 g8))
  have m0 := HZ.out.cell 0 _ rfl
  have m1 := HZ.out.cell 1 _ rfl
  have m2 := HZ.out.cell 2 _ rfl
  have m3 := HZ.out.cell 3 _ rfl
  have m4 := HZ.out.cell 4 _ rfl
  have m5 := HZ.out.cell 5 _ rfl
  refine bodyPost_ret (v := Pl.lv m.other) (by simp [results, Tryz.results26, go_sem, m0, m1, m2, m3, m4, m5, Pl.lv]) rfl ⟨rfl, HB8.out⟩
theorem has_any (m : Mem) (id : Int) (w : World) : Calls Tryz.prog 63 #[.agg (rqcs m).toArray, .int .i64 id] w fun e w' => e = .returned (.bool (m.sent && m.sid == id)) ∧ Below w.heap.size w w' := by
  obtain ⟨w1, hw1⟩ : ∃ w1, w1 = w.alloc (.cells (rqcs m).toArray 73) := ⟨_, rfl⟩
  have HB : Hid (Below w.heap.size w w1) := Lib.hid (hw1 ▸ ((Below.refl w.heap.size w).alloc (Nat.le_refl _) _))
  have A1 : Hid (Arr w.heap.size w1 (rqcs m)) := Lib.hid (hw1 ▸ Arr.new w (rqcs m) _)
  have c0 := A1.out.cell 0 _ rfl
  have c1 := A1.out.cell 1 _ rfl
  have hlt := A1.out.lt
  cases hs : m.sent
  · rw [hs] at c0
    rw [Bool.false_and]
    go_enter Tryz.func63, Tryz.ntmps63
    go_upto_region 1 with (fail)
    rw [← hw1]
    clear hw1
    go_wp2_with fail
    go_ret
    exact ⟨rfl, HB.out⟩
  · rw [hs] at c0
    rw [Bool.true_and]
    go_enter Tryz.func63, Tryz.ntmps63
    go_upto_region 1 with (fail)
    rw [← hw1]
    clear hw1
    go_wp2_with fail
    go_ret
    exact ⟨rfl, HB.out⟩
end Go.Proofs.YteabkmelnoefiaaGreatDoor.Ne
