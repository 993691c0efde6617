/-
  Contracts of the program's digest: what the two listed variables hold; the state after one block.
-/
import Derived.Test.YtaagfmnpeimakaaDoorDh2
import Derived.BigQuiet
import Derived.Deep.QuietTactic
namespace Go.Proofs.YtaagfmnpeimakaaDoor.Dig
theorem sum_eq (a F M S x : BitVec 32) (t : Nat) : x + rolled (F + a + S + M) t = x + rolled (a + F + M + S) t := by
  have : F + a + S + M = a + F + M + S := by ac_rfl
  rw [this]
end Go.Proofs.YtaagfmnpeimakaaDoor.Dig
namespace Go.Proofs.YtaagfmnpeimakaaDoor.Dh
open Go.RowKit
set_option maxRecDepth 100000
/-- A block that may be read as a whole. -/
def Row (B : Nat) (w : World) (cs : List Value) : Prop := ∃ t fr, w.heap[B]? = some (.cells cs.toArray t fr)
theorem Row.lt {B : Nat} {w : World} {cs : List Value} (h : Row B w cs) : B < w.heap.size := by
  obtain ⟨t, fr, h⟩ := h
  exact (Array.getElem?_eq_some_iff.1 h).1
theorem Row.below {B : Nat} {w w' : World} {cs : List Value} (h : Row B w cs) (k : Below w.heap.size w w') : Row B w' cs := by
  have hl := h.lt
  obtain ⟨t, fr, h⟩ := h
  exact ⟨t, fr, (k.block B hl).trans h⟩
theorem Row.load {B : Nat} {w : World} {cs : List Value} (h : Row B w cs) (t : TypeId) (n : Nat) (e : TypeId) (hu : Tryd.prog.underlying t = some (.array n e)) (hi : (Tryd.prog.info? t).map (·.size) = some cs.length) :
    (loadVar t ⟨B, 0, none⟩).run Tryd.prog w = .ok (.agg cs.toArray) w := by
  obtain ⟨t', fr, h⟩ := h
  exact run_loadVar_row w B t' t cs.toArray fr _ h hu rfl (by rw [hi]; simp)
/-- The program's two variables: the constants, the turns. -/
structure Tab (w : World) : Prop where
  sines : Row 0 w (cellsW Dig.sines)
  turns : ∀ c, c < 16 → w.cell? ⟨1, c, none⟩ = some (.int .i64 ((Dig.turns.getD c 0 : Nat) : Int))
theorem Tab.below {w w' : World} (h : Tab w) (hb : Below w.heap.size w w') : Tab w' :=
  ⟨h.sines.below hb, fun c hc => (hb.cell (block_lt_of_cell (h.turns c hc))).trans (h.turns c hc)⟩
def stC (s : Dig.St) : List Value := [.int .u32 (s.a.toNat : Int), .int .u32 (s.x.toNat : Int), .int .u32 (s.c.toNat : Int), .int .u32 (s.d.toNat : Int)]
theorem info64 : (Tryd.prog.info? 108).map (·.size) = some 64 := by kernel_rfl
theorem info4 : (Tryd.prog.info? 93).map (·.size) = some 4 := by kernel_rfl
theorem plus (a b s : Wrd) (h : s = a + b) : ((a.toNat : Int) + (b.toNat : Int)) % 4294967296 = (s.toNat : Int) := by
  have e := w_add a b
  rw [IntKind.wrap_u32'] at e
  rw [h, ← e]
set_option maxHeartbeats 3200000 in
set_option maxRecDepth 100000 in
theorem one_walk (p q r s : Wrd) (M : List Wrd) (hM : M.length = 16) (w : World) (T : Hid (Tab w)) (out : Dig.St) (ho : Dig.run M ⟨p, q, r, s⟩ 64 = out) :
    Calls Tryd.prog 60 #[.agg #[.int .u32 (p.toNat : Int), .int .u32 (q.toNat : Int), .int .u32 (r.toNat : Int), .int .u32 (s.toNat : Int)], .agg (cellsW M).toArray] w
      fun e w' => e = .returned (.agg (stC (Dig.join ⟨p, q, r, s⟩ out)).toArray) ∧ Below w.heap.size w w' := by
  have HO := Lib.hid ho
  clear ho
  obtain ⟨w1, hw1⟩ : ∃ w1, w1 = (((w.alloc (.cells #[.int .u32 (p.toNat : Int), .int .u32 (q.toNat : Int), .int .u32 (r.toNat : Int), .int .u32 (s.toNat : Int)] 93)).alloc (.cells (cellsW M).toArray 105)).alloc (.cells #[.int .u32 0, .int .u32 0, .int .u32 0, .int .u32 0] 93)) := ⟨_, rfl⟩
  have hb1 : Below w.heap.size w w1 := hw1 ▸ (((Below.refl w.heap.size w).alloc (Nat.le_refl _) _).alloc (by simp) _).alloc (by simp; omega) _
  have A0 : Hid (Arr w.heap.size w1 [.int .u32 (p.toNat : Int), .int .u32 (q.toNat : Int), .int .u32 (r.toNat : Int), .int .u32 (s.toNat : Int)]) := Lib.hid (hw1 ▸ ((Arr.new w [.int .u32 (p.toNat : Int), .int .u32 (q.toNat : Int), .int .u32 (r.toNat : Int), .int .u32 (s.toNat : Int)] 93).below ((Below.refl _ _).alloc (Nat.le_refl _) _)).below ((Below.refl _ _).alloc (Nat.le_refl _) _))
  have A1 : Hid (Arr (w.heap.size + 1) w1 (cellsW M)) := Lib.hid (hw1 ▸ (Arr.at (Arr.new (w.alloc (.cells #[.int .u32 (p.toNat : Int), .int .u32 (q.toNat : Int), .int .u32 (r.toNat : Int), .int .u32 (s.toNat : Int)] 93)) (cellsW M) 105) (by simp)).below ((Below.refl _ _).alloc (Nat.le_refl _) _))
  have A2 : Hid (Arr (w.heap.size + 1 + 1) w1 [.int .u32 0, .int .u32 0, .int .u32 0, .int .u32 0]) := Lib.hid (hw1 ▸ Arr.at (Arr.new ((w.alloc (.cells #[.int .u32 (p.toNat : Int), .int .u32 (q.toNat : Int), .int .u32 (r.toNat : Int), .int .u32 (s.toNat : Int)] 93)).alloc (.cells (cellsW M).toArray 105)) [.int .u32 0, .int .u32 0, .int .u32 0, .int .u32 0] 93) (by simp))
  have HB1 := Lib.hid hb1
  have HT1 := Lib.hid (T.out.below hb1)
  clear hb1
  go_enter Tryd.func60, Tryd.ntmps60
  go_wp2_with fail
  rw [← hw1]
  clear hw1
  have c0 := A0.out.cell 0 _ rfl
  have c1 := A0.out.cell 1 _ rfl
  have c2 := A0.out.cell 2 _ rfl
  have c3 := A0.out.cell 3 _ rfl
  go_quiet (fail)
  obtain ⟨w2, hw2⟩ : ∃ w2, w2 = w1.drewN nq := ⟨_, rfl⟩
  have hb2 : Below w1.heap.size w1 w2 := hw2 ▸ below_drewN (Below.refl _ _) nq
  have B0 := Lib.hid (A0.out.below hb2)
  have B1 := Lib.hid (A1.out.below hb2)
  have B2 := Lib.hid (A2.out.below hb2)
  have HB2 := Lib.hid (bel2 HB1.out hb2)
  have HT2 := Lib.hid (HT1.out.below hb2)
  rw [← hw2]
  clear hb2 hw2 c0 c1 c2 c3 A0 A1 A2 HB1 HT1
  have HLD := Lib.hid (HT2.out.sines.load 108 64 76 Tryd.underlying108 (by rw [cellsW_length]; exact info64))
  go_wp2_with (refine wpList_load rfl 108 _ rfl ⟨0, 0, none⟩ _ rfl HLD.out ?_)
  clear HLD
  go_loopw [5, 6, 7, 8, 9, 10, 11, 12, 13, 23] (fun s5 s6 s7 s8 _ _ _ _ _ s23 wr => ∃ n : Nat, n ≤ 64 ∧ s23 = .int .i64 (n : Int) ∧ s5 = .int .u32 ((Dig.run M ⟨p, q, r, s⟩ n).a.toNat : Int) ∧ s6 = .int .u32 ((Dig.run M ⟨p, q, r, s⟩ n).x.toNat : Int) ∧ s7 = .int .u32 ((Dig.run M ⟨p, q, r, s⟩ n).c.toNat : Int) ∧ s8 = .int .u32 ((Dig.run M ⟨p, q, r, s⟩ n).d.toNat : Int) ∧ wr = w2) (fun _ _ _ _ _ _ _ _ _ s23 _ => 64 - (intOf s23).toNat)
  case atStart => exact ⟨0, by omega, rfl, rfl, rfl, rfl, rfl, rfl⟩
  case round =>
    obtain ⟨n, hn, rfl, rfl, rfl, rfl, rfl, rfl⟩ := hrel
    by_cases hlt : n < 64
    · have HS : Hid (Dig.run M ⟨p, q, r, s⟩ (n + 1) = Dig.step M n (Dig.run M ⟨p, q, r, s⟩ n)) := Lib.hid rfl
      generalize Dig.run M ⟨p, q, r, s⟩ n = h at *
      obtain ⟨a, x, c, d⟩ := h
      simp only at *
      have hpk : Dig.pick n < 16 := by unfold Dig.pick; split <;> omega
      have htn : Dig.turn n < 32 := by
        have : ∀ i : Fin 64, Dig.turn i.val < 32 := by decide +kernel
        exact this ⟨n, hlt⟩
      have MX := Lib.hid fun W => mix_any (n / 16) n rfl hlt x c d W
      have PL := Lib.hid fun W => place_any (n / 16) n rfl hlt W
      obtain ⟨F, hF⟩ : ∃ F, F = Dig.mix n x c d := ⟨_, rfl⟩
      obtain ⟨S, hS⟩ : ∃ S, S = Dig.sines.getD n 0 := ⟨_, rfl⟩
      obtain ⟨N, hN⟩ : ∃ N, N = M.getD (Dig.pick n) 0 := ⟨_, rfl⟩
      obtain ⟨t1, h1⟩ : ∃ t, t = a + F := ⟨_, rfl⟩
      obtain ⟨t2, h2⟩ : ∃ t, t = t1 + N := ⟨_, rfl⟩
      obtain ⟨t3, h3⟩ : ∃ t, t = t2 + S := ⟨_, rfl⟩
      have RT := Lib.hid fun W => rot_any t3 (Dig.turn n) htn W
      obtain ⟨R, hR⟩ : ∃ R, R = Dig.rolled t3 (Dig.turn n) := ⟨_, rfl⟩
      obtain ⟨t4, h4⟩ : ∃ t, t = x + R := ⟨_, rfl⟩
      have HN : Hid (Dig.step M n ⟨a, x, c, d⟩ = ⟨d, t4, x, c⟩) := Lib.hid (by
        unfold Dig.step
        simp only
        rw [Dig.sum_eq, ← hF, ← hS, ← hN, ← h1, ← h2, ← h3, ← hR, ← h4])
      have e1 := plus _ _ _ h1
      have e2 := plus _ _ _ h2
      have e3 := plus _ _ _ h3
      have e4 := plus _ _ _ h4
      have E4 := Lib.hid e4
      have k1 : wr.cell? ⟨w.heap.size + 1, Dig.pick n, none⟩ = some (.int .u32 (N.toNat : Int)) := by
        rw [hN]
        exact B1.out.cell _ _ (cellsW_at M _ (by omega))
      have k2 := HT2.out.turns (n / 16 * 4 + n % 4) (by omega)
      have hk2 : Dig.turns.getD (n / 16 * 4 + n % 4) 0 = Dig.turn n := rfl
      rw [hk2] at k2
      have hsn : (cellsW Dig.sines)[n]? = some (.int .u32 (S.toNat : Int)) := by
        rw [hS]
        exact cellsW_at _ _ (by have : Dig.sines.length = 64 := rfl; omega)
      have HSN := Lib.hid hsn
      rw [← hF] at MX
      rw [← hR] at RT
      clear hsn hF hS hN hR h1 h2 h3 h4 hk2
      generalize Dig.pick n = pk at *
      generalize Dig.turn n = tn at *
      obtain ⟨g, hg⟩ : ∃ g, g = n / 16 := ⟨_, rfl⟩
      rw [← hg] at MX PL k2
      have hgi : ((n : Int) / 16) = (g : Int) := by omega
      have hg4 : g < 4 := by omega
      clear hg
      go_wp2_with (first | (refine wpList_index rfl 108 _ _ rfl (cellsW Dig.sines) 64 76 n _ rfl rfl Tryd.underlying108 (Tryd.sizeOf76 _) (Tryd.isAgg76 _) hlt HSN.out ?_) | (go_at_call 65; refine (MX.out _).mono ?_; rintro e v1 ⟨rfl, rfl⟩) | (go_at_call 66; refine (PL.out _).mono ?_; rintro e v1 ⟨rfl, rfl⟩) | (go_at_call 67; refine (RT.out _).mono ?_; rintro e v1 ⟨rfl, rfl⟩))
      go_roundw
      case rel => exact ⟨n + 1, by omega, by go_num, by rw [HS.out, HN.out], by rw [HS.out, HN.out]; exact congrArg (Value.int .u32) E4.out, by rw [HS.out, HN.out], by rw [HS.out, HN.out], trivial⟩
      case measure => simp [intOf]; omega
    · obtain rfl : n = 64 := by omega
      rw [HO.out]
      clear HO
      obtain ⟨oa, ox, oc, od⟩ := out
      simp only
      obtain ⟨t1, h1⟩ : ∃ t, t = p + oa := ⟨_, rfl⟩
      obtain ⟨t2, h2⟩ : ∃ t, t = q + ox := ⟨_, rfl⟩
      obtain ⟨t3, h3⟩ : ∃ t, t = r + oc := ⟨_, rfl⟩
      obtain ⟨t4, h4⟩ : ∃ t, t = s + od := ⟨_, rfl⟩
      have HJ : Hid (stC (Dig.join ⟨p, q, r, s⟩ ⟨oa, ox, oc, od⟩) = [.int .u32 (t1.toNat : Int), .int .u32 (t2.toNat : Int), .int .u32 (t3.toNat : Int), .int .u32 (t4.toNat : Int)]) := Lib.hid (by subst h1 h2 h3 h4; rfl)
      have e1 := plus _ _ _ h1
      have e2 := plus _ _ _ h2
      have e3 := plus _ _ _ h3
      have e4 := plus _ _ _ h4
      have c0 := B0.out.cell 0 _ rfl
      have c1 := B0.out.cell 1 _ rfl
      have c2 := B0.out.cell 2 _ rfl
      have c3 := B0.out.cell 3 _ rfl
      obtain ⟨wz, hst, hz, hgz⟩ := B2.out.store (ds := [.int .u32 (t1.toNat : Int), .int .u32 (t2.toNat : Int), .int .u32 (t3.toNat : Int), .int .u32 (t4.toNat : Int)]) 93 info4 rfl (by intro v hv; simp at hv; rcases hv with rfl | rfl | rfl | rfl <;> rfl)
      have HB9 := Lib.hid (below_of_grown HB2.out hgz (by omega) rfl)
      have HST := Lib.hid hst
      have hle := hz.load 93 4 76 Tryd.underlying93 info4
      have HLE := Lib.hid hle
      clear h1 h2 h3 h4 hst hgz hz hle
      go_wp2_with (refine wpList_store rfl 93 _ _ rfl ⟨w.heap.size + 1 + 1, 0, none⟩ _ wz rfl rfl HST.out ?_)
      refine bodyPost_ret (v := .agg #[.int .u32 (t1.toNat : Int), .int .u32 (t2.toNat : Int), .int .u32 (t3.toNat : Int), .int .u32 (t4.toNat : Int)]) ?_ rfl ⟨by rw [HJ.out], HB9.out⟩
      have hle := HLE.out
      simp [results, Tryd.f60, asAddr, Act.put, hle]
theorem one_any (h : Dig.St) (b : List UInt8) (w : World) (T : Hid (Tab w)) :
    Calls Tryd.prog 60 #[.agg (stC h).toArray, .agg (cellsW (Dig.words b)).toArray] w fun e w' => e = .returned (.agg (stC (Dig.block h b)).toArray) ∧ Below w.heap.size w w' := by
  obtain ⟨p, q, r, s⟩ := h
  exact one_walk p q r s (Dig.words b) (by simp [Dig.words]) w T _ rfl
end Go.Proofs.YtaagfmnpeimakaaDoor.Dh
