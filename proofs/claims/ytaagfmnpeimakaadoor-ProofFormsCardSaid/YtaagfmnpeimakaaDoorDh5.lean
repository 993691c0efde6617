/-
  Contracts of the program's digest: the state as bytes; what fills up the last block.
-/
import Derived.Test.YtaagfmnpeimakaaDoorDh4
import Derived.Test.YtaagfmnpeimakaaDoorZer
import Derived.Deep.DeepCutAuto
namespace Go.Proofs.YtaagfmnpeimakaaDoor.Dig
theorem row_at (s : St) (r : Nat) (h : r < 4) : [Value.int .u32 (s.a.toNat : Int), .int .u32 (s.x.toNat : Int), .int .u32 (s.c.toNat : Int), .int .u32 (s.d.toNat : Int)][r]? = some (.int .u32 (((row s).getD r 0).toNat : Int)) := by
  match r, h with
  | 0, _ => rfl
  | 1, _ => rfl
  | 2, _ => rfl
  | 3, _ => rfl
theorem outs_four (s : St) (r : Nat) (h : r < 4) : outs s r ++ four ((row s).getD r 0) = outs s (r + 1) := outs_succ s r h
theorem len8_four (n : Nat) (h : n ≤ 281474976710656) : len8 n = four (BitVec.ofNat 32 (8 * n)) ++ four (BitVec.ofNat 32 (8 * n / 4294967296)) := by
  have e : ∀ a b : Nat, a % 256 = b % 256 → UInt8.ofNat a = UInt8.ofNat b := fun a b h => by
    apply UInt8.toNat_inj.1
    simpa using h
  have f : ∀ x : BitVec 32, four x = [UInt8.ofNat (x.toNat / 256 ^ 0), UInt8.ofNat (x.toNat / 256 ^ 1), UInt8.ofNat (x.toNat / 256 ^ 2), UInt8.ofNat (x.toNat / 256 ^ 3)] := fun x => rfl
  have g : len8 n = [UInt8.ofNat (8 * n / 256 ^ 0), UInt8.ofNat (8 * n / 256 ^ 1), UInt8.ofNat (8 * n / 256 ^ 2), UInt8.ofNat (8 * n / 256 ^ 3), UInt8.ofNat (8 * n / 256 ^ 4), UInt8.ofNat (8 * n / 256 ^ 5), UInt8.ofNat (8 * n / 256 ^ 6), UInt8.ofNat (8 * n / 256 ^ 7)] := rfl
  rw [f, f, g, BitVec.toNat_ofNat, BitVec.toNat_ofNat]
  simp only [List.cons_append, List.nil_append, List.cons.injEq, and_true]
  refine ⟨e _ _ ?_, e _ _ ?_, e _ _ ?_, e _ _ ?_, e _ _ ?_, e _ _ ?_, e _ _ ?_, e _ _ ?_⟩ <;> omega
end Go.Proofs.YtaagfmnpeimakaaDoor.Dig
namespace Go.Proofs.YtaagfmnpeimakaaDoor.Dh
open Go.RowKit
set_option maxRecDepth 100000
set_option maxHeartbeats 1600000 in
theorem text_any (s : Dig.St) (w : World) :
    Calls Tryd.prog 56 #[.agg (stC s).toArray] w fun e w' => e = .returned (.string ⟨(Dig.out s).toArray⟩) ∧ Below w.heap.size w w' := by
  have MR := fun W => make_room 16 (by decide) W
  have e16 : ((16 : Nat) : Int) = 16 := rfl
  rw [e16] at MR
  obtain ⟨w1, hw1⟩ : ∃ w1, w1 = w.alloc (.cells (stC s).toArray 93) := ⟨_, rfl⟩
  have hs1 : w1.heap.size = w.heap.size + 1 := by rw [hw1]; simp
  have hb1 : Below w.heap.size w w1 := hw1 ▸ (Below.refl w.heap.size w).alloc (Nat.le_refl _) _
  have HO : Hid (Owns w (w1.alloc (.cells (Lib.byteCells (zeros 16)).toArray 5)) (.slice (some ⟨w.heap.size + 1, 0, none⟩) 0 16) []) := Lib.hid (hs1 ▸ room_owns w w1 16 (by decide) hb1)
  have A0 : Arr w.heap.size (w1.alloc (.cells (Lib.byteCells (zeros 16)).toArray 5)) (stC s) := (hw1 ▸ Arr.new w (stC s) 93 : Arr w.heap.size w1 (stC s)).below ((Below.refl _ _).alloc (Nat.le_refl _) _)
  have HLD := Lib.hid (A0.load 93 4 76 Tryd.underlying93 info4)
  clear A0 hb1 hs1
  subst hw1
  go_enter Tryd.func56, Tryd.ntmps56
  go_wp2_with (refine wpList_load rfl 93 _ rfl ⟨w.heap.size, 0, none⟩ _ rfl HLD.out ?_)
  clear MR
  go_loopw [3, 5, 8] (fun s3 _ s8 wr => ∃ r : Nat, r ≤ 4 ∧ s8 = .int .i64 (r : Int) ∧ Owns w wr s3 (Dig.outs s r)) (fun _ _ s8 _ => 4 - (intOf s8).toNat)
  case atStart => exact ⟨0, by omega, rfl, HO.out⟩
  case round =>
    clear HO HLD
    obtain ⟨r, hr, rfl, ho⟩ := hrel
    have HO := Lib.hid ho
    clear ho
    by_cases hlt : r < 4
    · have hol := Dig.outs_length s r hr
      have WD := Lib.hid fun v W HO => word_any w v (Dig.outs s r) ((Dig.row s).getD r 0) W (by omega) HO
      rw [Dig.outs_four s r hlt] at WD
      have HR := Lib.hid (Dig.row_at s r hlt)
      generalize (Dig.row s).getD r 0 = x at *
      go_wp2_with (first | (refine wpList_index rfl 93 _ _ rfl (stC s) 4 76 r _ rfl rfl Tryd.underlying93 (Tryd.sizeOf76 _) (Tryd.isAgg76 _) hlt HR.out ?_) | (go_at_call 62; refine (WD.out _ _ HO).mono ?_; rintro e w4 ⟨v4, rfl, h4⟩; have H4 := Lib.hid h4; clear h4))
      go_roundw
      case rel => exact ⟨r + 1, by omega, by go_num, H4.out⟩
      case measure => simp [intOf]; omega
    · obtain rfl : r = 4 := by omega
      have ho := HO.out
      rw [Dig.outs_all] at ho
      have hcv := ho.text
      have HB9 := Lib.hid ho.2
      clear ho
      go_wp2_with fail
      go_ret
      exact ⟨rfl, HB9.out⟩
set_option maxHeartbeats 1600000 in
theorem ending_any (n : Nat) (hn : n ≤ 281474976710656) (w : World) :
    Calls Tryd.prog 55 #[.int .i64 (n : Int)] w fun e w' => e = .returned (.string ⟨(Dig.ending n).toArray⟩) ∧ Below w.heap.size w w' := by
  have MR := fun W => make_room 128 (by decide) W
  have e128 : ((128 : Nat) : Int) = 128 := rfl
  rw [e128] at MR
  have HO := Lib.hid (room_owns w w 128 (by decide) (Below.refl _ _))
  obtain ⟨m, hm⟩ : ∃ m, m = (119 - n % 64) % 64 := ⟨_, rfl⟩
  obtain ⟨B, hB⟩ : ∃ B : List UInt8, B = [128] := ⟨_, rfl⟩
  have hBl : B.length = 1 := by rw [hB]; rfl
  have hC : (#[.int .u8 128] : Array Value) = (Lib.byteCells B).toArray := by rw [hB]; rfl
  have HC := Lib.hid hC
  clear hC
  have hm2 : (63 - ((n : Int) + 8) % 64) = (m : Int) := by omega
  have hm3 : m < 64 := by omega
  obtain ⟨x, hx⟩ : ∃ x, x = BitVec.ofNat 32 (8 * n) := ⟨_, rfl⟩
  obtain ⟨y, hy⟩ : ∃ y, y = BitVec.ofNat 32 (8 * n / 4294967296) := ⟨_, rfl⟩
  have hx2 : ((n : Int) * 8) % 4294967296 = (x.toNat : Int) := by rw [hx, BitVec.toNat_ofNat]; omega
  have hy2 : ((n : Int) * 8) / 4294967296 = (y.toNat : Int) := by rw [hy, BitVec.toNat_ofNat]; omega
  have HE : Hid (Dig.ending n = [] ++ B ++ zeros m ++ Dig.four x ++ Dig.four y) := Lib.hid (by
    unfold Dig.ending
    rw [Dig.len8_four n hn, ← hx, ← hy, ← hm]
    rw [hB]
    show [128] ++ zeros m ++ (_ ++ _) = _
    rw [List.append_assoc _ (Dig.four x)]
    rfl)
  clear hm hx hy
  have W1 := Lib.hid fun v W (L : List UInt8) (hL : L.length ≤ 100) HO => word_any w v L x W (by omega) HO
  have W2 := Lib.hid fun v W (L : List UInt8) (hL : L.length ≤ 100) HO => word_any w v L y W (by omega) HO
  have hz : (zeros m).length = m := by simp [zeros]
  have l1 : ([] ++ B ++ zeros m : List UInt8).length ≤ 100 := by simp [hz, hBl]; omega
  have l2 : ([] ++ B ++ zeros m ++ Dig.four x : List UInt8).length ≤ 100 := by
    have : (Dig.four x).length = 4 := rfl
    simp only [List.length_append, List.length_nil, hBl, hz, this]
    omega
  have hlz : ([] ++ B).length + m ≤ 1000000 := by simp [hBl]; omega
  have hlb : ([] : List UInt8).length + B.length ≤ 1073741824 := by simp [hBl]
  have hsl : ∀ p, Value.slice p 1 1 = .slice p B.length B.length := fun p => by rw [hBl]
  clear hz hB
  go_enter Tryd.func55, Tryd.ntmps55
  go_upto_region 4 with (fail)
  generalize w.alloc (.cells (Lib.byteCells (zeros 128)).toArray 5) = w1 at *
  clear MR
  go_wp2_with (first | (at_builtin; rw [HC.out]; refine wp_push rfl _ _ rfl [] B HO.out rfl rfl hlb ?_; intro v5 w5 h5; have H5 := Lib.hid h5; clear h5) | (at_builtin; refine wp_zeros rfl _ _ rfl ([] ++ B) m H5.out rfl rfl hlz ?_; intro v6 w6 h6; have H6 := Lib.hid h6; clear h6) | (go_at_call 62; with_reducible refine (W1.out _ _ _ l1 H6).mono ?_; rintro e w7 ⟨v7, rfl, h7⟩; have H7 := Lib.hid h7; clear h7) | (go_at_call 62; with_reducible refine (W2.out _ _ _ l2 H7).mono ?_; rintro e w8 ⟨v8, rfl, h8⟩; have H8 := Lib.hid h8; have hcv := h8.text; clear h8))
  go_ret
  exact ⟨congrArg (fun z : List UInt8 => Ending.returned (.string ⟨z.toArray⟩)) (by have h := HE.out.symm; simpa [List.append_assoc] using h), H8.out.2⟩
end Go.Proofs.YtaagfmnpeimakaaDoor.Dh
