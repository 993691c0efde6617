/-
  Contracts of the program's digest: a word behind bytes of the call's own; a block's words.
-/
import Derived.Test.YtaagfmnpeimakaaDoorDg2
import Derived.Test.YtaagfmnpeimakaaDoorDh1
import Derived.Test.YtaagfmnpeimakaaDoorDg4
import Derived.Test.YtaagfmnpeimakaaDoorText
import Derived.Test.YtaagfmnpeimakaaDoorPushB
import Derived.Test.YtaagfmnpeimakaaDoorArr
import Derived.BigRegion
namespace Go.Proofs.YtaagfmnpeimakaaDoor.Dh
open Go.RowKit
set_option maxRecDepth 100000
theorem four_cells (x : Wrd) : (#[.int .u8 ((x.toNat : Int) % 256), .int .u8 ((x.toNat : Int) / 256 % 256), .int .u8 ((x.toNat : Int) / 65536 % 256), .int .u8 ((x.toNat : Int) / 16777216)] : Array Value) = (Lib.byteCells (Dig.four x)).toArray := by
  have hx := x.isLt
  have e : ∀ n : Nat, ((UInt8.ofNat n).toNat : Int) = (n : Int) % 256 := fun n => by simp
  have h : Lib.byteCells (Dig.four x) = [.int .u8 ((UInt8.ofNat (x.toNat / 256 ^ 0)).toNat : Int), .int .u8 ((UInt8.ofNat (x.toNat / 256 ^ 1)).toNat : Int), .int .u8 ((UInt8.ofNat (x.toNat / 256 ^ 2)).toNat : Int), .int .u8 ((UInt8.ofNat (x.toNat / 256 ^ 3)).toNat : Int)] := rfl
  rw [h, e, e, e, e]
  have h0 : ((x.toNat / 256 ^ 0 : Nat) : Int) % 256 = (x.toNat : Int) % 256 := by omega
  have h1 : ((x.toNat / 256 ^ 1 : Nat) : Int) % 256 = (x.toNat : Int) / 256 % 256 := by omega
  have h2 : ((x.toNat / 256 ^ 2 : Nat) : Int) % 256 = (x.toNat : Int) / 65536 % 256 := by omega
  have h3 : ((x.toNat / 256 ^ 3 : Nat) : Int) % 256 = (x.toNat : Int) / 16777216 := by omega
  rw [h0, h1, h2, h3]
set_option maxHeartbeats 1600000 in
theorem word_any (w0 : World) (v : Value) (L : List UInt8) (x : Wrd) (w : World) (hL : L.length ≤ 100000) (HO : Hid (Owns w0 w v L)) :
    Calls Tryd.prog 62 #[v, .int .u32 (x.toNat : Int)] w fun e w' => ∃ v', e = .returned v' ∧ Owns w0 w' v' (L ++ Dig.four x) := by
  have hC := Lib.hid (four_cells x)
  have hlen : L.length + (Dig.four x).length ≤ 1073741824 := by
    have : (Dig.four x).length = 4 := rfl
    omega
  go_enter Tryd.func62, Tryd.ntmps62
  go_wp2_with (at_builtin; rw [hC.out]; refine wp_push rfl _ _ rfl L (Dig.four x) HO.out rfl rfl hlen ?_; intro v7 w7 h7; have H7 := Lib.hid h7; clear h7)
  go_ret
  exact ⟨_, rfl, H7.out⟩
theorem cut_four (b : List UInt8) (k : Nat) (h : 4 * k + 4 ≤ b.length) : (ByteArray.mk b.toArray).extract (4 * k) (4 * k + 4) = ⟨#[b.getD (4 * k) 0, b.getD (4 * k + 1) 0, b.getD (4 * k + 2) 0, b.getD (4 * k + 3) 0]⟩ := by
  rw [cut_list]
  congr 1
  apply Array.toList_inj.1
  have e : ∀ j, j < 4 → (List.drop (4 * k) (List.take (4 * k + 4) b))[j]? = some (b.getD (4 * k + j) 0) := fun j hj => by
    rw [List.getElem?_drop, List.getElem?_take, if_pos (by omega), List.getD_eq_getElem?_getD, List.getElem?_eq_getElem (by omega)]
    rfl
  have hl : (List.drop (4 * k) (List.take (4 * k + 4) b)).length = 4 := by rw [List.length_drop, List.length_take]; omega
  apply List.ext_getElem?
  intro j
  match j with
  | 0 => simpa using e 0 (by omega)
  | 1 => simpa using e 1 (by omega)
  | 2 => simpa using e 2 (by omega)
  | 3 => simpa using e 3 (by omega)
  | n + 4 => simp; omega
theorem words16 (k : Nat) (b : List UInt8) : (cellsW (Dig.some_words b k)).length = 16 := by rw [cellsW_length, Dig.some_length]
theorem cellsW_one (A : List Wrd) : ∀ v ∈ cellsW A, v.oneCell' = true := by
  intro v hv
  simp only [cellsW, List.mem_map] at hv
  obtain ⟨x, _, rfl⟩ := hv
  rfl
theorem info16 : (Tryd.prog.info? 105).map (·.size) = some 16 := by kernel_rfl
set_option maxHeartbeats 3200000 in
theorem words_any (b : List UInt8) (w : World) (hb : 64 ≤ b.length) (hb2 : b.length ≤ 281474976710656) :
    Calls Tryd.prog 61 #[.string ⟨b.toArray⟩] w fun e w' => e = .returned (.agg (cellsW (Dig.words b)).toArray) ∧ Below w.heap.size w w' := by
  have hZ : (#[.int .u32 0, .int .u32 0, .int .u32 0, .int .u32 0, .int .u32 0, .int .u32 0, .int .u32 0, .int .u32 0, .int .u32 0, .int .u32 0, .int .u32 0, .int .u32 0, .int .u32 0, .int .u32 0, .int .u32 0, .int .u32 0] : Array Value) = (cellsW (Dig.some_words b 0)).toArray := rfl
  have HZ := Lib.hid hZ
  clear hZ
  go_enter Tryd.func61, Tryd.ntmps61
  go_wp2_with fail
  rw [HZ.out]
  have H0 : Hid (Arr w.heap.size ((w.alloc (.cells (cellsW (Dig.some_words b 0)).toArray 105)).alloc (.cells (cellsW (Dig.some_words b 0)).toArray 105)) (cellsW (Dig.some_words b 0))) := Lib.hid ((Arr.new w (cellsW (Dig.some_words b 0)) 105).below ((Below.refl _ _).alloc (Nat.le_refl _) _))
  have H1 : Hid (Arr (w.heap.size + 1) ((w.alloc (.cells (cellsW (Dig.some_words b 0)).toArray 105)).alloc (.cells (cellsW (Dig.some_words b 0)).toArray 105)) (cellsW (Dig.some_words b 0))) := Lib.hid (Arr.at (Arr.new (w.alloc (.cells (cellsW (Dig.some_words b 0)).toArray 105)) (cellsW (Dig.some_words b 0)) 105) (by simp))
  have HB0 := Lib.hid (((Below.refl w.heap.size w).alloc (Nat.le_refl _) (.cells (cellsW (Dig.some_words b 0)).toArray 105)).alloc (by simp) (.cells (cellsW (Dig.some_words b 0)).toArray 105))
  go_loopw [4, 5, 6] (fun _ _ i wr => ∃ k : Nat, k ≤ 16 ∧ i = .int .i64 (k : Int) ∧ Arr w.heap.size wr (cellsW (Dig.some_words b 0)) ∧ Arr (w.heap.size + 1) wr (cellsW (Dig.some_words b k)) ∧ Below w.heap.size w wr) (fun _ _ i _ => 16 - (intOf i).toNat)
  case atStart => exact ⟨0, by omega, rfl, H0.out, H1.out, HB0.out⟩
  case round =>
    clear H0 H1 HB0 HZ
    obtain ⟨k, hk, rfl, h0, h1, hbl⟩ := hrel
    have H0 := Lib.hid h0
    have H1 := Lib.hid h1
    have HB := Lib.hid hbl
    clear h0 h1 hbl
    by_cases hlt : k < 16
    · have e1 : IntKind.i64.wrap (4 * (k : Int)) = ((4 * k : Nat) : Int) := by rw [IntWalk.i64_in _ ⟨by omega, by omega⟩]; omega
      have e2 : IntKind.i64.wrap (((4 * k : Nat) : Int) + 4) = ((4 * k + 4 : Nat) : Int) := by rw [IntWalk.i64_in _ ⟨by omega, by omega⟩]; omega
      have hsz : (ByteArray.mk b.toArray).size = b.length := sz b
      have hs1 := H1.out.set k (.int .u32 ((Dig.word b k).toNat : Int))
      rw [← cellsW_set, Dig.some_set] at hs1
      have m1 := H1.out.cell k (.int .u32 (((Dig.some_words b k).getD k 0).toNat : Int)) (cellsW_at _ k (by rw [Dig.some_length]; exact hlt))
      have fz : ∀ o, wr.frozen? ⟨w.heap.size + 1, o, none⟩ = false := fun o => H1.out.frozen o
      have hw := Dg.word_spell b k _ _ _ _ rfl rfl rfl rfl
      simp only [IntKind.wrap_u32'] at hw
      rw [← hw] at hs1
      obtain ⟨V, hV⟩ : ∃ V : Value, V = .int .u32 (bits .or .u32 (bits .or .u32 (bits .or .u32 (((b.getD (4 * k) 0).toNat : Int) % 4294967296) (((b.getD (4 * k + 1) 0).toNat : Int) % 4294967296 * 256 % 4294967296)) (((b.getD (4 * k + 2) 0).toNat : Int) % 4294967296 * 65536 % 4294967296)) (((b.getD (4 * k + 3) 0).toNat : Int) % 4294967296 * 16777216 % 4294967296)) := ⟨_, rfl⟩
      rw [← hV] at hs1
      have HN1 := Lib.hid hs1
      have hg : wr.grownBy (wr.setCell ⟨w.heap.size + 1, k, none⟩ V) (some (w.heap.size + 1)) := grown_cell _ ⟨w.heap.size + 1, k, none⟩ _
      have HN0 : Hid (Arr w.heap.size (wr.setCell ⟨w.heap.size + 1, k, none⟩ V) (cellsW (Dig.some_words b 0))) := Lib.hid (Arr.grown H0.out hg (by simp))
      have HNB : Hid (Below w.heap.size w ((wr.setCell ⟨w.heap.size + 1, k, none⟩ V).drew)) := Lib.hid (Below.setCell HB.out (by simp) _).drew
      have hx := cut_four b k (by omega)
      subst hV
      clear hs1 hg hw
      generalize b.getD (4 * k) 0 = y0 at *
      generalize b.getD (4 * k + 1) 0 = y1 at *
      generalize b.getD (4 * k + 2) 0 = y2 at *
      generalize b.getD (4 * k + 3) 0 = y3 at *
      go_wp2_with fail
      go_still_tail 20, (by kernel_rfl)
      change wpList _ _ _ _ _ (World.drew _)
      go_wp2_with fail
      go_roundw
      case rel => exact ⟨k + 1, by omega, by go_num, HN0.out, HN1.out, HNB.out⟩
      case measure => simp [intOf]; omega
    · obtain rfl : k = 16 := by omega
      have h1 := H1.out
      rw [Dig.some_all] at h1
      have hld := h1.load 105 16 76 Tryd.underlying105 (by rw [cellsW_length]; simp only [Dig.words, List.length_map, List.length_range]; exact info16)
      have hL : (cellsW (Dig.words b)).length = 16 := by rw [cellsW_length]; simp [Dig.words]
      obtain ⟨wz, hst, hz, hgz⟩ := H0.out.store (ds := cellsW (Dig.words b)) 105 (by rw [hL]; exact info16) (by rw [words16, hL]) (cellsW_one _)
      have HB9 := Lib.hid (below_of_grown HB.out hgz (Nat.le_refl _) rfl)
      have HLD := Lib.hid hld
      have HST := Lib.hid hst
      have hle := hz.load 105 16 76 Tryd.underlying105 (by rw [hL]; exact info16)
      clear hld hst hgz h1
      go_wp2_with (first | (refine wpList_load rfl 105 _ rfl ⟨w.heap.size + 1, 0, none⟩ _ rfl HLD.out ?_) | (refine wpList_store rfl 105 _ _ rfl ⟨w.heap.size, 0, none⟩ _ wz rfl rfl HST.out ?_))
      refine bodyPost_ret (v := .agg (cellsW (Dig.words b)).toArray) ?_ rfl ⟨rfl, HB9.out⟩
      simp [results, Tryd.f61, asAddr, Act.put, hle]
end Go.Proofs.YtaagfmnpeimakaaDoor.Dh
