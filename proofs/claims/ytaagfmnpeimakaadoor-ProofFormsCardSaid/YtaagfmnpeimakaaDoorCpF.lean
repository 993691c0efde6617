/-
  The walk of the law of names, secrets, tries and challenges (written by gen_cpf.py).
-/
import Derived.Test.YtaagfmnpeimakaaDoorCp9
import Derived.Test.YtaagfmnpeimakaaDoorBytes
import Derived.Test.YtaagfmnpeimakaaDoorBits
import Derived.RegionTactic
import Derived.Deep.AppendLies
import Derived.BigRegion
import Derived.Deep.RegionHeld
import Derived.Deep.DeepCutAuto
namespace Go.Proofs.YtaagfmnpeimakaaDoor.Cp
open Go.RowKit
set_option maxRecDepth 100000
theorem zeros_len (k : Nat) : (zeros k).length = k := by simp [zeros]
theorem holds_made (W : World) (k : Nat) : Holds W.heap.size (W.alloc (.cells (Lib.byteCells (zeros k)).toArray 5)) (zeros k) := fun j hj => by
  have h := new_cells W (Lib.byteCells (zeros k)) 5 j (.int .u8 (((zeros k).getD j 0).toNat : Int)) (by simp [Lib.byteCells, hj])
  have e : (⟨W.heap.size, 0, none⟩ : Addr).add j = ⟨W.heap.size, j, none⟩ := by unfold Addr.add; split <;> simp_all
  rw [e] at h
  exact ⟨h, by simp⟩
theorem Holds.below {B : Nat} {w w' : World} {L : List UInt8} (h : Holds B w L) (k : Below w.heap.size w w') : Holds B w' L := fun j hj =>
  have hl := block_lt_of_cell (h j hj).1
  ⟨(k.cell hl).trans (h j hj).1, (k.frozen hl).trans (h j hj).2⟩
section
variable {ops : Array Oper} {o : Oper} {a : Act} {K : Act → World → Prop} {Q : Exit → Act → World → Prop} {E : Prop} {W : World}
theorem step_mk (hgd : o.guard = none) (x : Operand) (ho : o.op = .makeSlice 58 x x) (k : Nat) (hk : k ≤ 100000) (hx : a.eval x = .int .i64 (k : Int))
    (h : ∀ B w', Holds B w' (zeros k) → Below W.heap.size W w' → K (a.put o.dst (.slice (some ⟨B, 0, none⟩) k k)) w') :
    if Region.wanted o (yielded ops a.tmps) = true then Oper.wp Tryd.prog o a W K Q else E := by
  have hw : Region.wanted o (yielded ops a.tmps) = true := by simp [Region.wanted, hgd]
  rw [if_pos hw]
  have m := make_bytes k hk W
  unfold Oper.wp execOp
  simp only [ho, hx, Sem.run_bind, Sem.run_pure, m, Result.andThen_ok]
  exact h _ _ (holds_made W k) ((Below.refl W.heap.size W).alloc (Nat.le_refl _) _)
theorem step_tx (hgd : o.guard = none) (x : Operand) (ho : o.op = .convert 58 9 x) (k B : Nat) (hx : a.eval x = .slice (some ⟨B, 0, none⟩) k k) (hb : Holds B W (zeros k))
    (h : K (a.put o.dst (.string ⟨(zeros k).toArray⟩)) W) :
    if Region.wanted o (yielded ops a.tmps) = true then Oper.wp Tryd.prog o a W K Q else E := by
  have hw : Region.wanted o (yielded ops a.tmps) = true := by simp [Region.wanted, hgd]
  rw [if_pos hw]
  have m := hb.back k
  rw [zeros_len] at m
  unfold Oper.wp execOp
  simp only [ho, hx, Sem.run_bind, Sem.run_pure, m, Result.andThen_ok]
  exact h
end
theorem holds_at (W : World) (k B : Nat) (hB : B = W.heap.size) : Holds B (W.alloc (.cells (Lib.byteCells (zeros k)).toArray 5)) (zeros k) := hB ▸ holds_made W k
theorem text_at {B k : Nat} {W : World} (h : Holds B W (zeros k)) : (convert 58 9 (.slice (some ⟨B, 0, none⟩) k k)).run Tryd.prog W = .ok (.string ⟨(zeros k).toArray⟩) W := by
  have m := h.back k
  rwa [zeros_len] at m
theorem held_mono {P : Program} {md : Region.Mode} {ops : Array Oper} {Q : Exit → Act → World → Prop} {S S' : World → Prop} (hS : ∀ w, S' w → S w) : ∀ (fuel : Nat) (listed : Array Bool) (a : Act) (w : World), wpAnyH P md ops Q S' fuel listed a w → wpAnyH P md ops Q S fuel listed a w
  | 0, _, _, _, h => h
  | fuel + 1, _, _, _, h => ⟨h.1, fun i hi => wpOp_mono (fun a' w' h' => ⟨hS w' h'.1, held_mono hS fuel _ a' w' h'.2⟩) (h.2 i hi)⟩
abbrev Since (V : World) : World → Prop := fun w => Below V.heap.size V w
theorem text_yield {o : Oper} {a : Act} {x : Operand} {B k : Nat} {W : World} (ho : o.op = .convert 58 9 x) (hx : a.eval x = .slice (some ⟨B, 0, none⟩) k k) (h : Holds B W (zeros k)) :
    (execOp a.eval o).run Tryd.prog W = .ok (.value (.string ⟨(zeros k).toArray⟩)) W := by
  have m := text_at h
  unfold execOp
  simp only [ho, hx, Sem.run_bind, Sem.run_pure, m, Result.andThen_ok]
set_option maxHeartbeats 6400000 in
theorem forms_bad (na se ex t0 ch : Int) (a b c d : Nat) (ha : bits .and .i64 na 63 = (a : Int)) (hb : bits .and .i64 se 127 = (b : Int)) (hc : bits .and .i64 ex 127 = (c : Int)) (hd : bits .and .i64 ch 511 = (d : Int)) (la : a < 64) (lb : b < 128) (lc : c < 128) (_ld : d < 512) (w : World) (T : Hid (Dg.Tab w))
    (hbad : (32 : Int) < (a : Int) ∨ (a : Int) ≤ 32 ∧ ((b : Int) < 1 ∨ (1 : Int) ≤ (b : Int) ∧ ((64 : Int) < (b : Int) ∨ (b : Int) ≤ 64 ∧ ((c : Int) < 1 ∨ (1 : Int) ≤ (c : Int) ∧ ((64 : Int) < (c : Int) ∨ (c : Int) ≤ 64 ∧ (t0 < 1 ∨ 1 ≤ t0 ∧ 10 < t0))))))
    (NEW : Hid (∀ W, Calls Tryd.prog 8 #[.string ⟨(zeros a).toArray⟩, .string ⟨(zeros b).toArray⟩, .string ⟨(zeros c).toArray⟩, .int .i64 t0] W fun e w' => e = .returned (.tuple #[.pointer none, .int .i64 1600]) ∧ W = w')) :
    Calls Tryd.prog 7 #[.int .i64 na, .int .i64 se, .int .i64 ex, .int .i64 t0, .int .i64 ch] w fun e w' => e = .returned (.bool true) ∧ Below w.heap.size w w' := by
  go_enter Tryd.func7, Tryd.ntmps7
  go_upto_region 4 with (go_at_call 11; refine (awake_any w T).mono ?_; rintro e w0 ⟨rfl, hb0⟩; have B0 := Lib.hid hb0; clear hb0)
  go_cut [15, 16] (fun s15 s16 wx => s15 = .pointer none ∧ s16 = .int .i64 1600 ∧ Below w.heap.size w wx)
  case first =>
    clear ha hb hc hd hbad
    refine wp_region_held_drew (S := Since w0.drew) (by kernel_rfl) (Below.refl _ _) (fun _ => ?_)
    refine wpAnyH_take (i := 0) (oi := { dst := some 34, op := Op.move (Operand.tmp 11), type := 3, pos := "deep.go:16", after := #[], guard := none }) (v := .int .i64 (a : Int)) rfl (by kernel_rfl) (by kernel_rfl) (by kernel_rfl) (fun _ _ _ h => h) (Or.inl ⟨by rfl, fun w h => by go_simp⟩) (Below.refl _ _) ?_
    simp only [Act.put, List.setIfInBounds_toArray, List.set_cons_zero, List.set_cons_succ]
    refine wpAnyH_take (i := 3) (oi := { dst := some 37, op := Op.move (Operand.tmp 12), type := 3, pos := "deep.go:16", after := #[], guard := none }) (v := .int .i64 (b : Int)) rfl (by kernel_rfl) (by kernel_rfl) (by kernel_rfl) (fun _ _ _ h => h) (Or.inl ⟨by rfl, fun w h => by go_simp⟩) (Below.refl _ _) ?_
    simp only [Act.put, List.setIfInBounds_toArray, List.set_cons_zero, List.set_cons_succ]
    refine wpAnyH_take (i := 6) (oi := { dst := some 40, op := Op.move (Operand.tmp 13), type := 3, pos := "deep.go:16", after := #[], guard := none }) (v := .int .i64 (c : Int)) rfl (by kernel_rfl) (by kernel_rfl) (by kernel_rfl) (fun _ _ _ h => h) (Or.inl ⟨by rfl, fun w h => by go_simp⟩) (Below.refl _ _) ?_
    simp only [Act.put, List.setIfInBounds_toArray, List.set_cons_zero, List.set_cons_succ]
    refine wpAnyH_take (i := 9) (oi := { dst := some 43, op := Op.move (Operand.tmp 3), type := 3, pos := "deep.go:16", after := #[], guard := none }) (v := .int .i64 t0) rfl (by kernel_rfl) (by kernel_rfl) (by kernel_rfl) (fun _ _ _ h => h) (Or.inl ⟨by rfl, fun w h => by go_simp⟩) (Below.refl _ _) ?_
    simp only [Act.put, List.setIfInBounds_toArray, List.set_cons_zero, List.set_cons_succ]
    refine wpAnyH_ready (rs := [1, 4, 7]) (by kernel_rfl) (by simp) ?_
    refine AllReadyH.cons (o := { dst := some 35, op := Op.makeSlice 58 (Operand.tmp 34) (Operand.tmp 34), type := 58, pos := "deep.go:16", after := #[{ on := 0, ground := Ground.data }, { on := 0, ground := Ground.data }], guard := none }) rfl (fun K hK => ?_) ?_
    · refine step_mk rfl _ rfl a (by omega) rfl ?_
      intro B1 w1 H1 K1
      refine hK.out _ _ K1 (fun _ => ?_)
      clear hK K
      simp only [Act.put, List.setIfInBounds_toArray, List.set_cons_zero, List.set_cons_succ]
      refine held_mono (S' := Since w1) (fun w h => bel2 K1 h) _ _ _ _ ?_
      refine wpAnyH_take (i := 2) (oi := { dst := some 36, op := Op.convert 58 9 (Operand.tmp 35), type := 9, pos := "deep.go:16", after := #[{ on := 1, ground := Ground.data }], guard := none }) (v := .string ⟨(zeros a).toArray⟩) rfl (by kernel_rfl) (by kernel_rfl) (by kernel_rfl) (fun _ _ _ h => h) (Or.inl ⟨by rfl, fun w h => text_yield rfl rfl (Holds.below H1 h)⟩) (Below.refl _ _) ?_
      simp only [Act.put, List.setIfInBounds_toArray, List.set_cons_zero, List.set_cons_succ]
      refine wpAnyH_ready (rs := [4, 7]) (by kernel_rfl) (by simp) ?_
      refine AllReadyH.cons (o := { dst := some 38, op := Op.makeSlice 58 (Operand.tmp 37) (Operand.tmp 37), type := 58, pos := "deep.go:16", after := #[{ on := 3, ground := Ground.data }, { on := 3, ground := Ground.data }], guard := none }) rfl (fun K hK => ?_) ?_
      · refine step_mk rfl _ rfl b (by omega) rfl ?_
        intro B2 w2 H2 K2
        refine hK.out _ _ K2 (fun _ => ?_)
        clear hK K
        simp only [Act.put, List.setIfInBounds_toArray, List.set_cons_zero, List.set_cons_succ]
        refine held_mono (S' := Since w2) (fun w h => bel2 K2 h) _ _ _ _ ?_
        refine wpAnyH_take (i := 5) (oi := { dst := some 39, op := Op.convert 58 9 (Operand.tmp 38), type := 9, pos := "deep.go:16", after := #[{ on := 4, ground := Ground.data }], guard := none }) (v := .string ⟨(zeros b).toArray⟩) rfl (by kernel_rfl) (by kernel_rfl) (by kernel_rfl) (fun _ _ _ h => h) (Or.inl ⟨by rfl, fun w h => text_yield rfl rfl (Holds.below H2 h)⟩) (Below.refl _ _) ?_
        simp only [Act.put, List.setIfInBounds_toArray, List.set_cons_zero, List.set_cons_succ]
        refine wpAnyH_ready (rs := [7]) (by kernel_rfl) (by simp) ?_
        refine AllReadyH.cons (o := { dst := some 41, op := Op.makeSlice 58 (Operand.tmp 40) (Operand.tmp 40), type := 58, pos := "deep.go:16", after := #[{ on := 6, ground := Ground.data }, { on := 6, ground := Ground.data }], guard := none }) rfl (fun K hK => ?_) ?_
        · refine step_mk rfl _ rfl c (by omega) rfl ?_
          intro B3 w3 H3 K3
          refine hK.out _ _ K3 (fun _ => ?_)
          clear hK K
          simp only [Act.put, List.setIfInBounds_toArray, List.set_cons_zero, List.set_cons_succ]
          refine held_mono (S' := Since w3) (fun w h => bel2 K3 h) _ _ _ _ ?_
          refine wpAnyH_take (i := 8) (oi := { dst := some 42, op := Op.convert 58 9 (Operand.tmp 41), type := 9, pos := "deep.go:16", after := #[{ on := 7, ground := Ground.data }], guard := none }) (v := .string ⟨(zeros c).toArray⟩) rfl (by kernel_rfl) (by kernel_rfl) (by kernel_rfl) (fun _ _ _ h => h) (Or.inl ⟨by rfl, fun w h => text_yield rfl rfl (Holds.below H3 h)⟩) (Below.refl _ _) ?_
          simp only [Act.put, List.setIfInBounds_toArray, List.set_cons_zero, List.set_cons_succ]
          refine wpAnyH_ready (rs := [10]) (by kernel_rfl) (by simp) ?_
          refine AllReadyH.cons (o := { dst := some 44, op := Op.call { callee := Callee.value (Operand.func 8), args := #[Operand.tmp 36, Operand.tmp 39, Operand.tmp 42, Operand.tmp 43], argTypes := #[9, 9, 9, 3] }, type := 25, pos := "deep.go:16", after := #[{ on := 2, ground := Ground.data }, { on := 5, ground := Ground.data }, { on := 8, ground := Ground.data }, { on := 9, ground := Ground.data }], guard := none }) rfl (fun K hK => ?_) AllReadyH.nil
          go_simp
          go_wp2_with (go_at_call 8; refine (NEW.out _).mono ?_; rintro e w9 ⟨rfl, rfl⟩)
          refine hK.out _ _ (Below.refl _ _) (fun hS => ?_)
          clear hK K
          try simp only [Act.put, List.setIfInBounds_toArray, List.set_cons_zero, List.set_cons_succ]
          refine wpAnyH_take (i := 11) (oi := { dst := some 33, op := Op.move (Operand.tmp 44), type := 25, pos := "deep.go:16", after := #[{ on := 10, ground := Ground.data }], guard := none }) (v := .tuple #[.pointer none, .int .i64 1600]) rfl (by kernel_rfl) (by kernel_rfl) (by kernel_rfl) (fun _ _ _ h => h) (Or.inl ⟨by rfl, fun w h => by go_simp⟩) hS ?_
          simp only [Act.put, List.setIfInBounds_toArray, List.set_cons_zero, List.set_cons_succ]
          refine wpAnyH_take (i := 12) (oi := { dst := some 45, op := Op.extract (Operand.tmp 33) 0, type := 23, pos := "deep.go:16", after := #[{ on := 11, ground := Ground.data }], guard := none }) (v := .pointer none) rfl (by kernel_rfl) (by kernel_rfl) (by kernel_rfl) (fun _ _ _ h => h) (Or.inl ⟨by rfl, fun w h => by go_simp⟩) hS ?_
          simp only [Act.put, List.setIfInBounds_toArray, List.set_cons_zero, List.set_cons_succ]
          refine wpAnyH_take (i := 13) (oi := { dst := some 46, op := Op.extract (Operand.tmp 33) 1, type := 24, pos := "deep.go:16", after := #[{ on := 11, ground := Ground.data }, { on := 14, ground := Ground.gcOnly Departure.lateStores }], guard := none }) (v := .int .i64 1600) rfl (by kernel_rfl) (by kernel_rfl) (by kernel_rfl) (fun _ _ _ h => h) (Or.inl ⟨by rfl, fun w h => by go_simp⟩) hS ?_
          simp only [Act.put, List.setIfInBounds_toArray, List.set_cons_zero, List.set_cons_succ]
          refine wpAnyH_take (i := 14) (oi := { dst := some 15, op := Op.assign (Operand.tmp 45), type := 23, pos := "deep.go:16", after := #[{ on := 12, ground := Ground.data }, { on := 10, ground := Ground.chain }, { on := 0, ground := Ground.phase }, { on := 1, ground := Ground.phase }, { on := 2, ground := Ground.phase }, { on := 3, ground := Ground.phase }, { on := 4, ground := Ground.phase }, { on := 5, ground := Ground.phase }, { on := 6, ground := Ground.phase }, { on := 7, ground := Ground.phase }, { on := 8, ground := Ground.phase }, { on := 9, ground := Ground.phase }, { on := 10, ground := Ground.phase }, { on := 11, ground := Ground.phase }, { on := 12, ground := Ground.phase }, { on := 13, ground := Ground.textOnly Departure.lateStores }], guard := none }) (v := .pointer none) rfl (by kernel_rfl) (by kernel_rfl) (by kernel_rfl) (fun _ _ _ h => h) (Or.inl ⟨by rfl, fun w h => by go_simp⟩) hS ?_
          simp only [Act.put, List.setIfInBounds_toArray, List.set_cons_zero, List.set_cons_succ]
          refine wpAnyH_take (i := 15) (oi := { dst := some 16, op := Op.assign (Operand.tmp 46), type := 24, pos := "deep.go:16", after := #[{ on := 13, ground := Ground.data }, { on := 14, ground := Ground.chain }, { on := 0, ground := Ground.phase }, { on := 1, ground := Ground.phase }, { on := 2, ground := Ground.phase }, { on := 3, ground := Ground.phase }, { on := 4, ground := Ground.phase }, { on := 5, ground := Ground.phase }, { on := 6, ground := Ground.phase }, { on := 7, ground := Ground.phase }, { on := 8, ground := Ground.phase }, { on := 9, ground := Ground.phase }, { on := 10, ground := Ground.phase }, { on := 11, ground := Ground.phase }, { on := 12, ground := Ground.phase }, { on := 13, ground := Ground.phase }, { on := 14, ground := Ground.phase }], guard := none }) (v := .int .i64 1600) rfl (by kernel_rfl) (by kernel_rfl) (by kernel_rfl) (fun _ _ _ h => h) (Or.inl ⟨by rfl, fun w h => by go_simp⟩) hS ?_
          simp only [Act.put, List.setIfInBounds_toArray, List.set_cons_zero, List.set_cons_succ]
          refine wpAnyH_done (by kernel_rfl) ?_ _
          go_wp2_with fail
          go_meet
          exact ⟨rfl, rfl, bel2 (bel2 (bel2 (bel2 B0.out (Below.refl w0.heap.size w0).drew) K1) K2) K3⟩
        exact AllReadyH.nil
      refine AllReadyH.cons (o := { dst := some 41, op := Op.makeSlice 58 (Operand.tmp 40) (Operand.tmp 40), type := 58, pos := "deep.go:16", after := #[{ on := 6, ground := Ground.data }, { on := 6, ground := Ground.data }], guard := none }) rfl (fun K hK => ?_) ?_
      · refine step_mk rfl _ rfl c (by omega) rfl ?_
        intro B2 w2 H2 K2
        refine hK.out _ _ K2 (fun _ => ?_)
        clear hK K
        simp only [Act.put, List.setIfInBounds_toArray, List.set_cons_zero, List.set_cons_succ]
        refine held_mono (S' := Since w2) (fun w h => bel2 K2 h) _ _ _ _ ?_
        refine wpAnyH_take (i := 8) (oi := { dst := some 42, op := Op.convert 58 9 (Operand.tmp 41), type := 9, pos := "deep.go:16", after := #[{ on := 7, ground := Ground.data }], guard := none }) (v := .string ⟨(zeros c).toArray⟩) rfl (by kernel_rfl) (by kernel_rfl) (by kernel_rfl) (fun _ _ _ h => h) (Or.inl ⟨by rfl, fun w h => text_yield rfl rfl (Holds.below H2 h)⟩) (Below.refl _ _) ?_
        simp only [Act.put, List.setIfInBounds_toArray, List.set_cons_zero, List.set_cons_succ]
        refine wpAnyH_ready (rs := [4]) (by kernel_rfl) (by simp) ?_
        refine AllReadyH.cons (o := { dst := some 38, op := Op.makeSlice 58 (Operand.tmp 37) (Operand.tmp 37), type := 58, pos := "deep.go:16", after := #[{ on := 3, ground := Ground.data }, { on := 3, ground := Ground.data }], guard := none }) rfl (fun K hK => ?_) ?_
        · refine step_mk rfl _ rfl b (by omega) rfl ?_
          intro B3 w3 H3 K3
          refine hK.out _ _ K3 (fun _ => ?_)
          clear hK K
          simp only [Act.put, List.setIfInBounds_toArray, List.set_cons_zero, List.set_cons_succ]
          refine held_mono (S' := Since w3) (fun w h => bel2 K3 h) _ _ _ _ ?_
          refine wpAnyH_take (i := 5) (oi := { dst := some 39, op := Op.convert 58 9 (Operand.tmp 38), type := 9, pos := "deep.go:16", after := #[{ on := 4, ground := Ground.data }], guard := none }) (v := .string ⟨(zeros b).toArray⟩) rfl (by kernel_rfl) (by kernel_rfl) (by kernel_rfl) (fun _ _ _ h => h) (Or.inl ⟨by rfl, fun w h => text_yield rfl rfl (Holds.below H3 h)⟩) (Below.refl _ _) ?_
          simp only [Act.put, List.setIfInBounds_toArray, List.set_cons_zero, List.set_cons_succ]
          refine wpAnyH_ready (rs := [10]) (by kernel_rfl) (by simp) ?_
          refine AllReadyH.cons (o := { dst := some 44, op := Op.call { callee := Callee.value (Operand.func 8), args := #[Operand.tmp 36, Operand.tmp 39, Operand.tmp 42, Operand.tmp 43], argTypes := #[9, 9, 9, 3] }, type := 25, pos := "deep.go:16", after := #[{ on := 2, ground := Ground.data }, { on := 5, ground := Ground.data }, { on := 8, ground := Ground.data }, { on := 9, ground := Ground.data }], guard := none }) rfl (fun K hK => ?_) AllReadyH.nil
          go_simp
          go_wp2_with (go_at_call 8; refine (NEW.out _).mono ?_; rintro e w9 ⟨rfl, rfl⟩)
          refine hK.out _ _ (Below.refl _ _) (fun hS => ?_)
          clear hK K
          try simp only [Act.put, List.setIfInBounds_toArray, List.set_cons_zero, List.set_cons_succ]
          refine wpAnyH_take (i := 11) (oi := { dst := some 33, op := Op.move (Operand.tmp 44), type := 25, pos := "deep.go:16", after := #[{ on := 10, ground := Ground.data }], guard := none }) (v := .tuple #[.pointer none, .int .i64 1600]) rfl (by kernel_rfl) (by kernel_rfl) (by kernel_rfl) (fun _ _ _ h => h) (Or.inl ⟨by rfl, fun w h => by go_simp⟩) hS ?_
          simp only [Act.put, List.setIfInBounds_toArray, List.set_cons_zero, List.set_cons_succ]
          refine wpAnyH_take (i := 12) (oi := { dst := some 45, op := Op.extract (Operand.tmp 33) 0, type := 23, pos := "deep.go:16", after := #[{ on := 11, ground := Ground.data }], guard := none }) (v := .pointer none) rfl (by kernel_rfl) (by kernel_rfl) (by kernel_rfl) (fun _ _ _ h => h) (Or.inl ⟨by rfl, fun w h => by go_simp⟩) hS ?_
          simp only [Act.put, List.setIfInBounds_toArray, List.set_cons_zero, List.set_cons_succ]
          refine wpAnyH_take (i := 13) (oi := { dst := some 46, op := Op.extract (Operand.tmp 33) 1, type := 24, pos := "deep.go:16", after := #[{ on := 11, ground := Ground.data }, { on := 14, ground := Ground.gcOnly Departure.lateStores }], guard := none }) (v := .int .i64 1600) rfl (by kernel_rfl) (by kernel_rfl) (by kernel_rfl) (fun _ _ _ h => h) (Or.inl ⟨by rfl, fun w h => by go_simp⟩) hS ?_
          simp only [Act.put, List.setIfInBounds_toArray, List.set_cons_zero, List.set_cons_succ]
          refine wpAnyH_take (i := 14) (oi := { dst := some 15, op := Op.assign (Operand.tmp 45), type := 23, pos := "deep.go:16", after := #[{ on := 12, ground := Ground.data }, { on := 10, ground := Ground.chain }, { on := 0, ground := Ground.phase }, { on := 1, ground := Ground.phase }, { on := 2, ground := Ground.phase }, { on := 3, ground := Ground.phase }, { on := 4, ground := Ground.phase }, { on := 5, ground := Ground.phase }, { on := 6, ground := Ground.phase }, { on := 7, ground := Ground.phase }, { on := 8, ground := Ground.phase }, { on := 9, ground := Ground.phase }, { on := 10, ground := Ground.phase }, { on := 11, ground := Ground.phase }, { on := 12, ground := Ground.phase }, { on := 13, ground := Ground.textOnly Departure.lateStores }], guard := none }) (v := .pointer none) rfl (by kernel_rfl) (by kernel_rfl) (by kernel_rfl) (fun _ _ _ h => h) (Or.inl ⟨by rfl, fun w h => by go_simp⟩) hS ?_
          simp only [Act.put, List.setIfInBounds_toArray, List.set_cons_zero, List.set_cons_succ]
          refine wpAnyH_take (i := 15) (oi := { dst := some 16, op := Op.assign (Operand.tmp 46), type := 24, pos := "deep.go:16", after := #[{ on := 13, ground := Ground.data }, { on := 14, ground := Ground.chain }, { on := 0, ground := Ground.phase }, { on := 1, ground := Ground.phase }, { on := 2, ground := Ground.phase }, { on := 3, ground := Ground.phase }, { on := 4, ground := Ground.phase }, { on := 5, ground := Ground.phase }, { on := 6, ground := Ground.phase }, { on := 7, ground := Ground.phase }, { on := 8, ground := Ground.phase }, { on := 9, ground := Ground.phase }, { on := 10, ground := Ground.phase }, { on := 11, ground := Ground.phase }, { on := 12, ground := Ground.phase }, { on := 13, ground := Ground.phase }, { on := 14, ground := Ground.phase }], guard := none }) (v := .int .i64 1600) rfl (by kernel_rfl) (by kernel_rfl) (by kernel_rfl) (fun _ _ _ h => h) (Or.inl ⟨by rfl, fun w h => by go_simp⟩) hS ?_
          simp only [Act.put, List.setIfInBounds_toArray, List.set_cons_zero, List.set_cons_succ]
          refine wpAnyH_done (by kernel_rfl) ?_ _
          go_wp2_with fail
          go_meet
          exact ⟨rfl, rfl, bel2 (bel2 (bel2 (bel2 B0.out (Below.refl w0.heap.size w0).drew) K1) K2) K3⟩
        exact AllReadyH.nil
      exact AllReadyH.nil
    refine AllReadyH.cons (o := { dst := some 38, op := Op.makeSlice 58 (Operand.tmp 37) (Operand.tmp 37), type := 58, pos := "deep.go:16", after := #[{ on := 3, ground := Ground.data }, { on := 3, ground := Ground.data }], guard := none }) rfl (fun K hK => ?_) ?_
    · refine step_mk rfl _ rfl b (by omega) rfl ?_
      intro B1 w1 H1 K1
      refine hK.out _ _ K1 (fun _ => ?_)
      clear hK K
      simp only [Act.put, List.setIfInBounds_toArray, List.set_cons_zero, List.set_cons_succ]
      refine held_mono (S' := Since w1) (fun w h => bel2 K1 h) _ _ _ _ ?_
      refine wpAnyH_take (i := 5) (oi := { dst := some 39, op := Op.convert 58 9 (Operand.tmp 38), type := 9, pos := "deep.go:16", after := #[{ on := 4, ground := Ground.data }], guard := none }) (v := .string ⟨(zeros b).toArray⟩) rfl (by kernel_rfl) (by kernel_rfl) (by kernel_rfl) (fun _ _ _ h => h) (Or.inl ⟨by rfl, fun w h => text_yield rfl rfl (Holds.below H1 h)⟩) (Below.refl _ _) ?_
      simp only [Act.put, List.setIfInBounds_toArray, List.set_cons_zero, List.set_cons_succ]
      refine wpAnyH_ready (rs := [1, 7]) (by kernel_rfl) (by simp) ?_
      refine AllReadyH.cons (o := { dst := some 35, op := Op.makeSlice 58 (Operand.tmp 34) (Operand.tmp 34), type := 58, pos := "deep.go:16", after := #[{ on := 0, ground := Ground.data }, { on := 0, ground := Ground.data }], guard := none }) rfl (fun K hK => ?_) ?_
      · refine step_mk rfl _ rfl a (by omega) rfl ?_
        intro B2 w2 H2 K2
        refine hK.out _ _ K2 (fun _ => ?_)
        clear hK K
        simp only [Act.put, List.setIfInBounds_toArray, List.set_cons_zero, List.set_cons_succ]
        refine held_mono (S' := Since w2) (fun w h => bel2 K2 h) _ _ _ _ ?_
        refine wpAnyH_take (i := 2) (oi := { dst := some 36, op := Op.convert 58 9 (Operand.tmp 35), type := 9, pos := "deep.go:16", after := #[{ on := 1, ground := Ground.data }], guard := none }) (v := .string ⟨(zeros a).toArray⟩) rfl (by kernel_rfl) (by kernel_rfl) (by kernel_rfl) (fun _ _ _ h => h) (Or.inl ⟨by rfl, fun w h => text_yield rfl rfl (Holds.below H2 h)⟩) (Below.refl _ _) ?_
        simp only [Act.put, List.setIfInBounds_toArray, List.set_cons_zero, List.set_cons_succ]
        refine wpAnyH_ready (rs := [7]) (by kernel_rfl) (by simp) ?_
        refine AllReadyH.cons (o := { dst := some 41, op := Op.makeSlice 58 (Operand.tmp 40) (Operand.tmp 40), type := 58, pos := "deep.go:16", after := #[{ on := 6, ground := Ground.data }, { on := 6, ground := Ground.data }], guard := none }) rfl (fun K hK => ?_) ?_
        · refine step_mk rfl _ rfl c (by omega) rfl ?_
          intro B3 w3 H3 K3
          refine hK.out _ _ K3 (fun _ => ?_)
          clear hK K
          simp only [Act.put, List.setIfInBounds_toArray, List.set_cons_zero, List.set_cons_succ]
          refine held_mono (S' := Since w3) (fun w h => bel2 K3 h) _ _ _ _ ?_
          refine wpAnyH_take (i := 8) (oi := { dst := some 42, op := Op.convert 58 9 (Operand.tmp 41), type := 9, pos := "deep.go:16", after := #[{ on := 7, ground := Ground.data }], guard := none }) (v := .string ⟨(zeros c).toArray⟩) rfl (by kernel_rfl) (by kernel_rfl) (by kernel_rfl) (fun _ _ _ h => h) (Or.inl ⟨by rfl, fun w h => text_yield rfl rfl (Holds.below H3 h)⟩) (Below.refl _ _) ?_
          simp only [Act.put, List.setIfInBounds_toArray, List.set_cons_zero, List.set_cons_succ]
          refine wpAnyH_ready (rs := [10]) (by kernel_rfl) (by simp) ?_
          refine AllReadyH.cons (o := { dst := some 44, op := Op.call { callee := Callee.value (Operand.func 8), args := #[Operand.tmp 36, Operand.tmp 39, Operand.tmp 42, Operand.tmp 43], argTypes := #[9, 9, 9, 3] }, type := 25, pos := "deep.go:16", after := #[{ on := 2, ground := Ground.data }, { on := 5, ground := Ground.data }, { on := 8, ground := Ground.data }, { on := 9, ground := Ground.data }], guard := none }) rfl (fun K hK => ?_) AllReadyH.nil
          go_simp
          go_wp2_with (go_at_call 8; refine (NEW.out _).mono ?_; rintro e w9 ⟨rfl, rfl⟩)
          refine hK.out _ _ (Below.refl _ _) (fun hS => ?_)
          clear hK K
          try simp only [Act.put, List.setIfInBounds_toArray, List.set_cons_zero, List.set_cons_succ]
          refine wpAnyH_take (i := 11) (oi := { dst := some 33, op := Op.move (Operand.tmp 44), type := 25, pos := "deep.go:16", after := #[{ on := 10, ground := Ground.data }], guard := none }) (v := .tuple #[.pointer none, .int .i64 1600]) rfl (by kernel_rfl) (by kernel_rfl) (by kernel_rfl) (fun _ _ _ h => h) (Or.inl ⟨by rfl, fun w h => by go_simp⟩) hS ?_
          simp only [Act.put, List.setIfInBounds_toArray, List.set_cons_zero, List.set_cons_succ]
          refine wpAnyH_take (i := 12) (oi := { dst := some 45, op := Op.extract (Operand.tmp 33) 0, type := 23, pos := "deep.go:16", after := #[{ on := 11, ground := Ground.data }], guard := none }) (v := .pointer none) rfl (by kernel_rfl) (by kernel_rfl) (by kernel_rfl) (fun _ _ _ h => h) (Or.inl ⟨by rfl, fun w h => by go_simp⟩) hS ?_
          simp only [Act.put, List.setIfInBounds_toArray, List.set_cons_zero, List.set_cons_succ]
          refine wpAnyH_take (i := 13) (oi := { dst := some 46, op := Op.extract (Operand.tmp 33) 1, type := 24, pos := "deep.go:16", after := #[{ on := 11, ground := Ground.data }, { on := 14, ground := Ground.gcOnly Departure.lateStores }], guard := none }) (v := .int .i64 1600) rfl (by kernel_rfl) (by kernel_rfl) (by kernel_rfl) (fun _ _ _ h => h) (Or.inl ⟨by rfl, fun w h => by go_simp⟩) hS ?_
          simp only [Act.put, List.setIfInBounds_toArray, List.set_cons_zero, List.set_cons_succ]
          refine wpAnyH_take (i := 14) (oi := { dst := some 15, op := Op.assign (Operand.tmp 45), type := 23, pos := "deep.go:16", after := #[{ on := 12, ground := Ground.data }, { on := 10, ground := Ground.chain }, { on := 0, ground := Ground.phase }, { on := 1, ground := Ground.phase }, { on := 2, ground := Ground.phase }, { on := 3, ground := Ground.phase }, { on := 4, ground := Ground.phase }, { on := 5, ground := Ground.phase }, { on := 6, ground := Ground.phase }, { on := 7, ground := Ground.phase }, { on := 8, ground := Ground.phase }, { on := 9, ground := Ground.phase }, { on := 10, ground := Ground.phase }, { on := 11, ground := Ground.phase }, { on := 12, ground := Ground.phase }, { on := 13, ground := Ground.textOnly Departure.lateStores }], guard := none }) (v := .pointer none) rfl (by kernel_rfl) (by kernel_rfl) (by kernel_rfl) (fun _ _ _ h => h) (Or.inl ⟨by rfl, fun w h => by go_simp⟩) hS ?_
          simp only [Act.put, List.setIfInBounds_toArray, List.set_cons_zero, List.set_cons_succ]
          refine wpAnyH_take (i := 15) (oi := { dst := some 16, op := Op.assign (Operand.tmp 46), type := 24, pos := "deep.go:16", after := #[{ on := 13, ground := Ground.data }, { on := 14, ground := Ground.chain }, { on := 0, ground := Ground.phase }, { on := 1, ground := Ground.phase }, { on := 2, ground := Ground.phase }, { on := 3, ground := Ground.phase }, { on := 4, ground := Ground.phase }, { on := 5, ground := Ground.phase }, { on := 6, ground := Ground.phase }, { on := 7, ground := Ground.phase }, { on := 8, ground := Ground.phase }, { on := 9, ground := Ground.phase }, { on := 10, ground := Ground.phase }, { on := 11, ground := Ground.phase }, { on := 12, ground := Ground.phase }, { on := 13, ground := Ground.phase }, { on := 14, ground := Ground.phase }], guard := none }) (v := .int .i64 1600) rfl (by kernel_rfl) (by kernel_rfl) (by kernel_rfl) (fun _ _ _ h => h) (Or.inl ⟨by rfl, fun w h => by go_simp⟩) hS ?_
          simp only [Act.put, List.setIfInBounds_toArray, List.set_cons_zero, List.set_cons_succ]
          refine wpAnyH_done (by kernel_rfl) ?_ _
          go_wp2_with fail
          go_meet
          exact ⟨rfl, rfl, bel2 (bel2 (bel2 (bel2 B0.out (Below.refl w0.heap.size w0).drew) K1) K2) K3⟩
        exact AllReadyH.nil
      refine AllReadyH.cons (o := { dst := some 41, op := Op.makeSlice 58 (Operand.tmp 40) (Operand.tmp 40), type := 58, pos := "deep.go:16", after := #[{ on := 6, ground := Ground.data }, { on := 6, ground := Ground.data }], guard := none }) rfl (fun K hK => ?_) ?_
      · refine step_mk rfl _ rfl c (by omega) rfl ?_
        intro B2 w2 H2 K2
        refine hK.out _ _ K2 (fun _ => ?_)
        clear hK K
        simp only [Act.put, List.setIfInBounds_toArray, List.set_cons_zero, List.set_cons_succ]
        refine held_mono (S' := Since w2) (fun w h => bel2 K2 h) _ _ _ _ ?_
        refine wpAnyH_take (i := 8) (oi := { dst := some 42, op := Op.convert 58 9 (Operand.tmp 41), type := 9, pos := "deep.go:16", after := #[{ on := 7, ground := Ground.data }], guard := none }) (v := .string ⟨(zeros c).toArray⟩) rfl (by kernel_rfl) (by kernel_rfl) (by kernel_rfl) (fun _ _ _ h => h) (Or.inl ⟨by rfl, fun w h => text_yield rfl rfl (Holds.below H2 h)⟩) (Below.refl _ _) ?_
        simp only [Act.put, List.setIfInBounds_toArray, List.set_cons_zero, List.set_cons_succ]
        refine wpAnyH_ready (rs := [1]) (by kernel_rfl) (by simp) ?_
        refine AllReadyH.cons (o := { dst := some 35, op := Op.makeSlice 58 (Operand.tmp 34) (Operand.tmp 34), type := 58, pos := "deep.go:16", after := #[{ on := 0, ground := Ground.data }, { on := 0, ground := Ground.data }], guard := none }) rfl (fun K hK => ?_) ?_
        · refine step_mk rfl _ rfl a (by omega) rfl ?_
          intro B3 w3 H3 K3
          refine hK.out _ _ K3 (fun _ => ?_)
          clear hK K
          simp only [Act.put, List.setIfInBounds_toArray, List.set_cons_zero, List.set_cons_succ]
          refine held_mono (S' := Since w3) (fun w h => bel2 K3 h) _ _ _ _ ?_
          refine wpAnyH_take (i := 2) (oi := { dst := some 36, op := Op.convert 58 9 (Operand.tmp 35), type := 9, pos := "deep.go:16", after := #[{ on := 1, ground := Ground.data }], guard := none }) (v := .string ⟨(zeros a).toArray⟩) rfl (by kernel_rfl) (by kernel_rfl) (by kernel_rfl) (fun _ _ _ h => h) (Or.inl ⟨by rfl, fun w h => text_yield rfl rfl (Holds.below H3 h)⟩) (Below.refl _ _) ?_
          simp only [Act.put, List.setIfInBounds_toArray, List.set_cons_zero, List.set_cons_succ]
          refine wpAnyH_ready (rs := [10]) (by kernel_rfl) (by simp) ?_
          refine AllReadyH.cons (o := { dst := some 44, op := Op.call { callee := Callee.value (Operand.func 8), args := #[Operand.tmp 36, Operand.tmp 39, Operand.tmp 42, Operand.tmp 43], argTypes := #[9, 9, 9, 3] }, type := 25, pos := "deep.go:16", after := #[{ on := 2, ground := Ground.data }, { on := 5, ground := Ground.data }, { on := 8, ground := Ground.data }, { on := 9, ground := Ground.data }], guard := none }) rfl (fun K hK => ?_) AllReadyH.nil
          go_simp
          go_wp2_with (go_at_call 8; refine (NEW.out _).mono ?_; rintro e w9 ⟨rfl, rfl⟩)
          refine hK.out _ _ (Below.refl _ _) (fun hS => ?_)
          clear hK K
          try simp only [Act.put, List.setIfInBounds_toArray, List.set_cons_zero, List.set_cons_succ]
          refine wpAnyH_take (i := 11) (oi := { dst := some 33, op := Op.move (Operand.tmp 44), type := 25, pos := "deep.go:16", after := #[{ on := 10, ground := Ground.data }], guard := none }) (v := .tuple #[.pointer none, .int .i64 1600]) rfl (by kernel_rfl) (by kernel_rfl) (by kernel_rfl) (fun _ _ _ h => h) (Or.inl ⟨by rfl, fun w h => by go_simp⟩) hS ?_
          simp only [Act.put, List.setIfInBounds_toArray, List.set_cons_zero, List.set_cons_succ]
          refine wpAnyH_take (i := 12) (oi := { dst := some 45, op := Op.extract (Operand.tmp 33) 0, type := 23, pos := "deep.go:16", after := #[{ on := 11, ground := Ground.data }], guard := none }) (v := .pointer none) rfl (by kernel_rfl) (by kernel_rfl) (by kernel_rfl) (fun _ _ _ h => h) (Or.inl ⟨by rfl, fun w h => by go_simp⟩) hS ?_
          simp only [Act.put, List.setIfInBounds_toArray, List.set_cons_zero, List.set_cons_succ]
          refine wpAnyH_take (i := 13) (oi := { dst := some 46, op := Op.extract (Operand.tmp 33) 1, type := 24, pos := "deep.go:16", after := #[{ on := 11, ground := Ground.data }, { on := 14, ground := Ground.gcOnly Departure.lateStores }], guard := none }) (v := .int .i64 1600) rfl (by kernel_rfl) (by kernel_rfl) (by kernel_rfl) (fun _ _ _ h => h) (Or.inl ⟨by rfl, fun w h => by go_simp⟩) hS ?_
          simp only [Act.put, List.setIfInBounds_toArray, List.set_cons_zero, List.set_cons_succ]
          refine wpAnyH_take (i := 14) (oi := { dst := some 15, op := Op.assign (Operand.tmp 45), type := 23, pos := "deep.go:16", after := #[{ on := 12, ground := Ground.data }, { on := 10, ground := Ground.chain }, { on := 0, ground := Ground.phase }, { on := 1, ground := Ground.phase }, { on := 2, ground := Ground.phase }, { on := 3, ground := Ground.phase }, { on := 4, ground := Ground.phase }, { on := 5, ground := Ground.phase }, { on := 6, ground := Ground.phase }, { on := 7, ground := Ground.phase }, { on := 8, ground := Ground.phase }, { on := 9, ground := Ground.phase }, { on := 10, ground := Ground.phase }, { on := 11, ground := Ground.phase }, { on := 12, ground := Ground.phase }, { on := 13, ground := Ground.textOnly Departure.lateStores }], guard := none }) (v := .pointer none) rfl (by kernel_rfl) (by kernel_rfl) (by kernel_rfl) (fun _ _ _ h => h) (Or.inl ⟨by rfl, fun w h => by go_simp⟩) hS ?_
          simp only [Act.put, List.setIfInBounds_toArray, List.set_cons_zero, List.set_cons_succ]
          refine wpAnyH_take (i := 15) (oi := { dst := some 16, op := Op.assign (Operand.tmp 46), type := 24, pos := "deep.go:16", after := #[{ on := 13, ground := Ground.data }, { on := 14, ground := Ground.chain }, { on := 0, ground := Ground.phase }, { on := 1, ground := Ground.phase }, { on := 2, ground := Ground.phase }, { on := 3, ground := Ground.phase }, { on := 4, ground := Ground.phase }, { on := 5, ground := Ground.phase }, { on := 6, ground := Ground.phase }, { on := 7, ground := Ground.phase }, { on := 8, ground := Ground.phase }, { on := 9, ground := Ground.phase }, { on := 10, ground := Ground.phase }, { on := 11, ground := Ground.phase }, { on := 12, ground := Ground.phase }, { on := 13, ground := Ground.phase }, { on := 14, ground := Ground.phase }], guard := none }) (v := .int .i64 1600) rfl (by kernel_rfl) (by kernel_rfl) (by kernel_rfl) (fun _ _ _ h => h) (Or.inl ⟨by rfl, fun w h => by go_simp⟩) hS ?_
          simp only [Act.put, List.setIfInBounds_toArray, List.set_cons_zero, List.set_cons_succ]
          refine wpAnyH_done (by kernel_rfl) ?_ _
          go_wp2_with fail
          go_meet
          exact ⟨rfl, rfl, bel2 (bel2 (bel2 (bel2 B0.out (Below.refl w0.heap.size w0).drew) K1) K2) K3⟩
        exact AllReadyH.nil
      exact AllReadyH.nil
    refine AllReadyH.cons (o := { dst := some 41, op := Op.makeSlice 58 (Operand.tmp 40) (Operand.tmp 40), type := 58, pos := "deep.go:16", after := #[{ on := 6, ground := Ground.data }, { on := 6, ground := Ground.data }], guard := none }) rfl (fun K hK => ?_) ?_
    · refine step_mk rfl _ rfl c (by omega) rfl ?_
      intro B1 w1 H1 K1
      refine hK.out _ _ K1 (fun _ => ?_)
      clear hK K
      simp only [Act.put, List.setIfInBounds_toArray, List.set_cons_zero, List.set_cons_succ]
      refine held_mono (S' := Since w1) (fun w h => bel2 K1 h) _ _ _ _ ?_
      refine wpAnyH_take (i := 8) (oi := { dst := some 42, op := Op.convert 58 9 (Operand.tmp 41), type := 9, pos := "deep.go:16", after := #[{ on := 7, ground := Ground.data }], guard := none }) (v := .string ⟨(zeros c).toArray⟩) rfl (by kernel_rfl) (by kernel_rfl) (by kernel_rfl) (fun _ _ _ h => h) (Or.inl ⟨by rfl, fun w h => text_yield rfl rfl (Holds.below H1 h)⟩) (Below.refl _ _) ?_
      simp only [Act.put, List.setIfInBounds_toArray, List.set_cons_zero, List.set_cons_succ]
      refine wpAnyH_ready (rs := [1, 4]) (by kernel_rfl) (by simp) ?_
      refine AllReadyH.cons (o := { dst := some 35, op := Op.makeSlice 58 (Operand.tmp 34) (Operand.tmp 34), type := 58, pos := "deep.go:16", after := #[{ on := 0, ground := Ground.data }, { on := 0, ground := Ground.data }], guard := none }) rfl (fun K hK => ?_) ?_
      · refine step_mk rfl _ rfl a (by omega) rfl ?_
        intro B2 w2 H2 K2
        refine hK.out _ _ K2 (fun _ => ?_)
        clear hK K
        simp only [Act.put, List.setIfInBounds_toArray, List.set_cons_zero, List.set_cons_succ]
        refine held_mono (S' := Since w2) (fun w h => bel2 K2 h) _ _ _ _ ?_
        refine wpAnyH_take (i := 2) (oi := { dst := some 36, op := Op.convert 58 9 (Operand.tmp 35), type := 9, pos := "deep.go:16", after := #[{ on := 1, ground := Ground.data }], guard := none }) (v := .string ⟨(zeros a).toArray⟩) rfl (by kernel_rfl) (by kernel_rfl) (by kernel_rfl) (fun _ _ _ h => h) (Or.inl ⟨by rfl, fun w h => text_yield rfl rfl (Holds.below H2 h)⟩) (Below.refl _ _) ?_
        simp only [Act.put, List.setIfInBounds_toArray, List.set_cons_zero, List.set_cons_succ]
        refine wpAnyH_ready (rs := [4]) (by kernel_rfl) (by simp) ?_
        refine AllReadyH.cons (o := { dst := some 38, op := Op.makeSlice 58 (Operand.tmp 37) (Operand.tmp 37), type := 58, pos := "deep.go:16", after := #[{ on := 3, ground := Ground.data }, { on := 3, ground := Ground.data }], guard := none }) rfl (fun K hK => ?_) ?_
        · refine step_mk rfl _ rfl b (by omega) rfl ?_
          intro B3 w3 H3 K3
          refine hK.out _ _ K3 (fun _ => ?_)
          clear hK K
          simp only [Act.put, List.setIfInBounds_toArray, List.set_cons_zero, List.set_cons_succ]
          refine held_mono (S' := Since w3) (fun w h => bel2 K3 h) _ _ _ _ ?_
          refine wpAnyH_take (i := 5) (oi := { dst := some 39, op := Op.convert 58 9 (Operand.tmp 38), type := 9, pos := "deep.go:16", after := #[{ on := 4, ground := Ground.data }], guard := none }) (v := .string ⟨(zeros b).toArray⟩) rfl (by kernel_rfl) (by kernel_rfl) (by kernel_rfl) (fun _ _ _ h => h) (Or.inl ⟨by rfl, fun w h => text_yield rfl rfl (Holds.below H3 h)⟩) (Below.refl _ _) ?_
          simp only [Act.put, List.setIfInBounds_toArray, List.set_cons_zero, List.set_cons_succ]
          refine wpAnyH_ready (rs := [10]) (by kernel_rfl) (by simp) ?_
          refine AllReadyH.cons (o := { dst := some 44, op := Op.call { callee := Callee.value (Operand.func 8), args := #[Operand.tmp 36, Operand.tmp 39, Operand.tmp 42, Operand.tmp 43], argTypes := #[9, 9, 9, 3] }, type := 25, pos := "deep.go:16", after := #[{ on := 2, ground := Ground.data }, { on := 5, ground := Ground.data }, { on := 8, ground := Ground.data }, { on := 9, ground := Ground.data }], guard := none }) rfl (fun K hK => ?_) AllReadyH.nil
          go_simp
          go_wp2_with (go_at_call 8; refine (NEW.out _).mono ?_; rintro e w9 ⟨rfl, rfl⟩)
          refine hK.out _ _ (Below.refl _ _) (fun hS => ?_)
          clear hK K
          try simp only [Act.put, List.setIfInBounds_toArray, List.set_cons_zero, List.set_cons_succ]
          refine wpAnyH_take (i := 11) (oi := { dst := some 33, op := Op.move (Operand.tmp 44), type := 25, pos := "deep.go:16", after := #[{ on := 10, ground := Ground.data }], guard := none }) (v := .tuple #[.pointer none, .int .i64 1600]) rfl (by kernel_rfl) (by kernel_rfl) (by kernel_rfl) (fun _ _ _ h => h) (Or.inl ⟨by rfl, fun w h => by go_simp⟩) hS ?_
          simp only [Act.put, List.setIfInBounds_toArray, List.set_cons_zero, List.set_cons_succ]
          refine wpAnyH_take (i := 12) (oi := { dst := some 45, op := Op.extract (Operand.tmp 33) 0, type := 23, pos := "deep.go:16", after := #[{ on := 11, ground := Ground.data }], guard := none }) (v := .pointer none) rfl (by kernel_rfl) (by kernel_rfl) (by kernel_rfl) (fun _ _ _ h => h) (Or.inl ⟨by rfl, fun w h => by go_simp⟩) hS ?_
          simp only [Act.put, List.setIfInBounds_toArray, List.set_cons_zero, List.set_cons_succ]
          refine wpAnyH_take (i := 13) (oi := { dst := some 46, op := Op.extract (Operand.tmp 33) 1, type := 24, pos := "deep.go:16", after := #[{ on := 11, ground := Ground.data }, { on := 14, ground := Ground.gcOnly Departure.lateStores }], guard := none }) (v := .int .i64 1600) rfl (by kernel_rfl) (by kernel_rfl) (by kernel_rfl) (fun _ _ _ h => h) (Or.inl ⟨by rfl, fun w h => by go_simp⟩) hS ?_
          simp only [Act.put, List.setIfInBounds_toArray, List.set_cons_zero, List.set_cons_succ]
          refine wpAnyH_take (i := 14) (oi := { dst := some 15, op := Op.assign (Operand.tmp 45), type := 23, pos := "deep.go:16", after := #[{ on := 12, ground := Ground.data }, { on := 10, ground := Ground.chain }, { on := 0, ground := Ground.phase }, { on := 1, ground := Ground.phase }, { on := 2, ground := Ground.phase }, { on := 3, ground := Ground.phase }, { on := 4, ground := Ground.phase }, { on := 5, ground := Ground.phase }, { on := 6, ground := Ground.phase }, { on := 7, ground := Ground.phase }, { on := 8, ground := Ground.phase }, { on := 9, ground := Ground.phase }, { on := 10, ground := Ground.phase }, { on := 11, ground := Ground.phase }, { on := 12, ground := Ground.phase }, { on := 13, ground := Ground.textOnly Departure.lateStores }], guard := none }) (v := .pointer none) rfl (by kernel_rfl) (by kernel_rfl) (by kernel_rfl) (fun _ _ _ h => h) (Or.inl ⟨by rfl, fun w h => by go_simp⟩) hS ?_
          simp only [Act.put, List.setIfInBounds_toArray, List.set_cons_zero, List.set_cons_succ]
          refine wpAnyH_take (i := 15) (oi := { dst := some 16, op := Op.assign (Operand.tmp 46), type := 24, pos := "deep.go:16", after := #[{ on := 13, ground := Ground.data }, { on := 14, ground := Ground.chain }, { on := 0, ground := Ground.phase }, { on := 1, ground := Ground.phase }, { on := 2, ground := Ground.phase }, { on := 3, ground := Ground.phase }, { on := 4, ground := Ground.phase }, { on := 5, ground := Ground.phase }, { on := 6, ground := Ground.phase }, { on := 7, ground := Ground.phase }, { on := 8, ground := Ground.phase }, { on := 9, ground := Ground.phase }, { on := 10, ground := Ground.phase }, { on := 11, ground := Ground.phase }, { on := 12, ground := Ground.phase }, { on := 13, ground := Ground.phase }, { on := 14, ground := Ground.phase }], guard := none }) (v := .int .i64 1600) rfl (by kernel_rfl) (by kernel_rfl) (by kernel_rfl) (fun _ _ _ h => h) (Or.inl ⟨by rfl, fun w h => by go_simp⟩) hS ?_
          simp only [Act.put, List.setIfInBounds_toArray, List.set_cons_zero, List.set_cons_succ]
          refine wpAnyH_done (by kernel_rfl) ?_ _
          go_wp2_with fail
          go_meet
          exact ⟨rfl, rfl, bel2 (bel2 (bel2 (bel2 B0.out (Below.refl w0.heap.size w0).drew) K1) K2) K3⟩
        exact AllReadyH.nil
      refine AllReadyH.cons (o := { dst := some 38, op := Op.makeSlice 58 (Operand.tmp 37) (Operand.tmp 37), type := 58, pos := "deep.go:16", after := #[{ on := 3, ground := Ground.data }, { on := 3, ground := Ground.data }], guard := none }) rfl (fun K hK => ?_) ?_
      · refine step_mk rfl _ rfl b (by omega) rfl ?_
        intro B2 w2 H2 K2
        refine hK.out _ _ K2 (fun _ => ?_)
        clear hK K
        simp only [Act.put, List.setIfInBounds_toArray, List.set_cons_zero, List.set_cons_succ]
        refine held_mono (S' := Since w2) (fun w h => bel2 K2 h) _ _ _ _ ?_
        refine wpAnyH_take (i := 5) (oi := { dst := some 39, op := Op.convert 58 9 (Operand.tmp 38), type := 9, pos := "deep.go:16", after := #[{ on := 4, ground := Ground.data }], guard := none }) (v := .string ⟨(zeros b).toArray⟩) rfl (by kernel_rfl) (by kernel_rfl) (by kernel_rfl) (fun _ _ _ h => h) (Or.inl ⟨by rfl, fun w h => text_yield rfl rfl (Holds.below H2 h)⟩) (Below.refl _ _) ?_
        simp only [Act.put, List.setIfInBounds_toArray, List.set_cons_zero, List.set_cons_succ]
        refine wpAnyH_ready (rs := [1]) (by kernel_rfl) (by simp) ?_
        refine AllReadyH.cons (o := { dst := some 35, op := Op.makeSlice 58 (Operand.tmp 34) (Operand.tmp 34), type := 58, pos := "deep.go:16", after := #[{ on := 0, ground := Ground.data }, { on := 0, ground := Ground.data }], guard := none }) rfl (fun K hK => ?_) ?_
        · refine step_mk rfl _ rfl a (by omega) rfl ?_
          intro B3 w3 H3 K3
          refine hK.out _ _ K3 (fun _ => ?_)
          clear hK K
          simp only [Act.put, List.setIfInBounds_toArray, List.set_cons_zero, List.set_cons_succ]
          refine held_mono (S' := Since w3) (fun w h => bel2 K3 h) _ _ _ _ ?_
          refine wpAnyH_take (i := 2) (oi := { dst := some 36, op := Op.convert 58 9 (Operand.tmp 35), type := 9, pos := "deep.go:16", after := #[{ on := 1, ground := Ground.data }], guard := none }) (v := .string ⟨(zeros a).toArray⟩) rfl (by kernel_rfl) (by kernel_rfl) (by kernel_rfl) (fun _ _ _ h => h) (Or.inl ⟨by rfl, fun w h => text_yield rfl rfl (Holds.below H3 h)⟩) (Below.refl _ _) ?_
          simp only [Act.put, List.setIfInBounds_toArray, List.set_cons_zero, List.set_cons_succ]
          refine wpAnyH_ready (rs := [10]) (by kernel_rfl) (by simp) ?_
          refine AllReadyH.cons (o := { dst := some 44, op := Op.call { callee := Callee.value (Operand.func 8), args := #[Operand.tmp 36, Operand.tmp 39, Operand.tmp 42, Operand.tmp 43], argTypes := #[9, 9, 9, 3] }, type := 25, pos := "deep.go:16", after := #[{ on := 2, ground := Ground.data }, { on := 5, ground := Ground.data }, { on := 8, ground := Ground.data }, { on := 9, ground := Ground.data }], guard := none }) rfl (fun K hK => ?_) AllReadyH.nil
          go_simp
          go_wp2_with (go_at_call 8; refine (NEW.out _).mono ?_; rintro e w9 ⟨rfl, rfl⟩)
          refine hK.out _ _ (Below.refl _ _) (fun hS => ?_)
          clear hK K
          try simp only [Act.put, List.setIfInBounds_toArray, List.set_cons_zero, List.set_cons_succ]
          refine wpAnyH_take (i := 11) (oi := { dst := some 33, op := Op.move (Operand.tmp 44), type := 25, pos := "deep.go:16", after := #[{ on := 10, ground := Ground.data }], guard := none }) (v := .tuple #[.pointer none, .int .i64 1600]) rfl (by kernel_rfl) (by kernel_rfl) (by kernel_rfl) (fun _ _ _ h => h) (Or.inl ⟨by rfl, fun w h => by go_simp⟩) hS ?_
          simp only [Act.put, List.setIfInBounds_toArray, List.set_cons_zero, List.set_cons_succ]
          refine wpAnyH_take (i := 12) (oi := { dst := some 45, op := Op.extract (Operand.tmp 33) 0, type := 23, pos := "deep.go:16", after := #[{ on := 11, ground := Ground.data }], guard := none }) (v := .pointer none) rfl (by kernel_rfl) (by kernel_rfl) (by kernel_rfl) (fun _ _ _ h => h) (Or.inl ⟨by rfl, fun w h => by go_simp⟩) hS ?_
          simp only [Act.put, List.setIfInBounds_toArray, List.set_cons_zero, List.set_cons_succ]
          refine wpAnyH_take (i := 13) (oi := { dst := some 46, op := Op.extract (Operand.tmp 33) 1, type := 24, pos := "deep.go:16", after := #[{ on := 11, ground := Ground.data }, { on := 14, ground := Ground.gcOnly Departure.lateStores }], guard := none }) (v := .int .i64 1600) rfl (by kernel_rfl) (by kernel_rfl) (by kernel_rfl) (fun _ _ _ h => h) (Or.inl ⟨by rfl, fun w h => by go_simp⟩) hS ?_
          simp only [Act.put, List.setIfInBounds_toArray, List.set_cons_zero, List.set_cons_succ]
          refine wpAnyH_take (i := 14) (oi := { dst := some 15, op := Op.assign (Operand.tmp 45), type := 23, pos := "deep.go:16", after := #[{ on := 12, ground := Ground.data }, { on := 10, ground := Ground.chain }, { on := 0, ground := Ground.phase }, { on := 1, ground := Ground.phase }, { on := 2, ground := Ground.phase }, { on := 3, ground := Ground.phase }, { on := 4, ground := Ground.phase }, { on := 5, ground := Ground.phase }, { on := 6, ground := Ground.phase }, { on := 7, ground := Ground.phase }, { on := 8, ground := Ground.phase }, { on := 9, ground := Ground.phase }, { on := 10, ground := Ground.phase }, { on := 11, ground := Ground.phase }, { on := 12, ground := Ground.phase }, { on := 13, ground := Ground.textOnly Departure.lateStores }], guard := none }) (v := .pointer none) rfl (by kernel_rfl) (by kernel_rfl) (by kernel_rfl) (fun _ _ _ h => h) (Or.inl ⟨by rfl, fun w h => by go_simp⟩) hS ?_
          simp only [Act.put, List.setIfInBounds_toArray, List.set_cons_zero, List.set_cons_succ]
          refine wpAnyH_take (i := 15) (oi := { dst := some 16, op := Op.assign (Operand.tmp 46), type := 24, pos := "deep.go:16", after := #[{ on := 13, ground := Ground.data }, { on := 14, ground := Ground.chain }, { on := 0, ground := Ground.phase }, { on := 1, ground := Ground.phase }, { on := 2, ground := Ground.phase }, { on := 3, ground := Ground.phase }, { on := 4, ground := Ground.phase }, { on := 5, ground := Ground.phase }, { on := 6, ground := Ground.phase }, { on := 7, ground := Ground.phase }, { on := 8, ground := Ground.phase }, { on := 9, ground := Ground.phase }, { on := 10, ground := Ground.phase }, { on := 11, ground := Ground.phase }, { on := 12, ground := Ground.phase }, { on := 13, ground := Ground.phase }, { on := 14, ground := Ground.phase }], guard := none }) (v := .int .i64 1600) rfl (by kernel_rfl) (by kernel_rfl) (by kernel_rfl) (fun _ _ _ h => h) (Or.inl ⟨by rfl, fun w h => by go_simp⟩) hS ?_
          simp only [Act.put, List.setIfInBounds_toArray, List.set_cons_zero, List.set_cons_succ]
          refine wpAnyH_done (by kernel_rfl) ?_ _
          go_wp2_with fail
          go_meet
          exact ⟨rfl, rfl, bel2 (bel2 (bel2 (bel2 B0.out (Below.refl w0.heap.size w0).drew) K1) K2) K3⟩
        exact AllReadyH.nil
      exact AllReadyH.nil
    exact AllReadyH.nil
  case rest =>
    obtain ⟨rfl, rfl, hb1⟩ := hcut
    have B1 := Lib.hid hb1
    clear hb1 NEW la lb lc ha hb hc hd
    rcases hbad with h1 | ⟨h1, h2 | ⟨h2, h3 | ⟨h3, h4 | ⟨h4, h5 | ⟨h5, h6 | ⟨h6, h7⟩⟩⟩⟩⟩⟩
    all_goals try have qt : decide (t0 ≤ 10) = false := decide_eq_false (by omega)
    all_goals
      go_wp2_with (go_at_call 10; refine (num_any _ _).mono ?_; rintro e w9 ⟨rfl, rfl⟩)
      go_ret
      exact ⟨rfl, B1.out⟩
set_option maxHeartbeats 6400000 in
theorem forms_good (na se ex t0 ch : Int) (a b c d : Nat) (ha : bits .and .i64 na 63 = (a : Int)) (hb : bits .and .i64 se 127 = (b : Int)) (hc : bits .and .i64 ex 127 = (c : Int)) (hd : bits .and .i64 ch 511 = (d : Int)) (la : a < 64) (lb : b < 128) (lc : c < 128) (ld : d < 512) (w : World) (T : Hid (Dg.Tab w)) (q0 q1 : Pf) (m : Prf.Msg) (e1 : Int)
    (h1 : (a : Int) ≤ 32) (h2 : (1 : Int) ≤ (b : Int)) (h3 : (b : Int) ≤ 64) (h4 : (1 : Int) ≤ (c : Int)) (h5 : (c : Int) ≤ 64) (h6 : 1 ≤ t0) (h7 : t0 ≤ 10)
    (hw : (d : Int) < 1 ∧ m = (0, 0, [], []) ∧ e1 = 1600 ∨ ((1 : Int) ≤ (d : Int) ∧ (255 : Int) < (d : Int)) ∧ m = (0, 0, [], []) ∧ e1 = 1600 ∨ ((1 : Int) ≤ (d : Int) ∧ (d : Int) ≤ 255) ∧ e1 = 0)
    (NEW : Hid (∀ W, Calls Tryd.prog 8 #[.string ⟨(zeros a).toArray⟩, .string ⟨(zeros b).toArray⟩, .string ⟨(zeros c).toArray⟩, .int .i64 t0] W (NewPost W q0)))
    (ST : Hid (∀ B W, Rg B W q0 → Calls Tryd.prog 12 #[.pointer (some ⟨B, 0, none⟩), .string ⟨(zeros d).toArray⟩] W (MsgPost B W (q1, m, e1))))
    (TK : Hid (∀ B W, Rg B W q1 → Hid (Dg.Tab W) → Calls Tryd.prog 17 #[.pointer (some ⟨B, 0, none⟩), mv (9, 0, [], [])] W (TakePost B W (q1, [], 1600)))) :
    Calls Tryd.prog 7 #[.int .i64 na, .int .i64 se, .int .i64 ex, .int .i64 t0, .int .i64 ch] w fun e w' => e = .returned (.bool true) ∧ Below w.heap.size w w' := by
  go_enter Tryd.func7, Tryd.ntmps7
  go_upto_region 4 with (go_at_call 11; refine (awake_any w T).mono ?_; rintro e w0 ⟨rfl, hb0⟩; have B0 := Lib.hid hb0; clear hb0)
  go_cut [15, 16] (fun s15 s16 wx => ∃ B, s15 = .pointer (some ⟨B, 0, none⟩) ∧ s16 = .int .i64 0 ∧ w.heap.size ≤ B ∧ Rg B wx q0 ∧ Below w.heap.size w wx)
  case first =>
    clear ha hb hc hd hw ST TK
    refine wp_region_held_drew (S := Since w0.drew) (by kernel_rfl) (Below.refl _ _) (fun _ => ?_)
    refine wpAnyH_take (i := 0) (oi := { dst := some 34, op := Op.move (Operand.tmp 11), type := 3, pos := "deep.go:16", after := #[], guard := none }) (v := .int .i64 (a : Int)) rfl (by kernel_rfl) (by kernel_rfl) (by kernel_rfl) (fun _ _ _ h => h) (Or.inl ⟨by rfl, fun w h => by go_simp⟩) (Below.refl _ _) ?_
    simp only [Act.put, List.setIfInBounds_toArray, List.set_cons_zero, List.set_cons_succ]
    refine wpAnyH_take (i := 3) (oi := { dst := some 37, op := Op.move (Operand.tmp 12), type := 3, pos := "deep.go:16", after := #[], guard := none }) (v := .int .i64 (b : Int)) rfl (by kernel_rfl) (by kernel_rfl) (by kernel_rfl) (fun _ _ _ h => h) (Or.inl ⟨by rfl, fun w h => by go_simp⟩) (Below.refl _ _) ?_
    simp only [Act.put, List.setIfInBounds_toArray, List.set_cons_zero, List.set_cons_succ]
    refine wpAnyH_take (i := 6) (oi := { dst := some 40, op := Op.move (Operand.tmp 13), type := 3, pos := "deep.go:16", after := #[], guard := none }) (v := .int .i64 (c : Int)) rfl (by kernel_rfl) (by kernel_rfl) (by kernel_rfl) (fun _ _ _ h => h) (Or.inl ⟨by rfl, fun w h => by go_simp⟩) (Below.refl _ _) ?_
    simp only [Act.put, List.setIfInBounds_toArray, List.set_cons_zero, List.set_cons_succ]
    refine wpAnyH_take (i := 9) (oi := { dst := some 43, op := Op.move (Operand.tmp 3), type := 3, pos := "deep.go:16", after := #[], guard := none }) (v := .int .i64 t0) rfl (by kernel_rfl) (by kernel_rfl) (by kernel_rfl) (fun _ _ _ h => h) (Or.inl ⟨by rfl, fun w h => by go_simp⟩) (Below.refl _ _) ?_
    simp only [Act.put, List.setIfInBounds_toArray, List.set_cons_zero, List.set_cons_succ]
    refine wpAnyH_ready (rs := [1, 4, 7]) (by kernel_rfl) (by simp) ?_
    refine AllReadyH.cons (o := { dst := some 35, op := Op.makeSlice 58 (Operand.tmp 34) (Operand.tmp 34), type := 58, pos := "deep.go:16", after := #[{ on := 0, ground := Ground.data }, { on := 0, ground := Ground.data }], guard := none }) rfl (fun K hK => ?_) ?_
    · refine step_mk rfl _ rfl a (by omega) rfl ?_
      intro B1 w1 H1 K1
      refine hK.out _ _ K1 (fun _ => ?_)
      clear hK K
      simp only [Act.put, List.setIfInBounds_toArray, List.set_cons_zero, List.set_cons_succ]
      refine held_mono (S' := Since w1) (fun w h => bel2 K1 h) _ _ _ _ ?_
      refine wpAnyH_take (i := 2) (oi := { dst := some 36, op := Op.convert 58 9 (Operand.tmp 35), type := 9, pos := "deep.go:16", after := #[{ on := 1, ground := Ground.data }], guard := none }) (v := .string ⟨(zeros a).toArray⟩) rfl (by kernel_rfl) (by kernel_rfl) (by kernel_rfl) (fun _ _ _ h => h) (Or.inl ⟨by rfl, fun w h => text_yield rfl rfl (Holds.below H1 h)⟩) (Below.refl _ _) ?_
      simp only [Act.put, List.setIfInBounds_toArray, List.set_cons_zero, List.set_cons_succ]
      refine wpAnyH_ready (rs := [4, 7]) (by kernel_rfl) (by simp) ?_
      refine AllReadyH.cons (o := { dst := some 38, op := Op.makeSlice 58 (Operand.tmp 37) (Operand.tmp 37), type := 58, pos := "deep.go:16", after := #[{ on := 3, ground := Ground.data }, { on := 3, ground := Ground.data }], guard := none }) rfl (fun K hK => ?_) ?_
      · refine step_mk rfl _ rfl b (by omega) rfl ?_
        intro B2 w2 H2 K2
        refine hK.out _ _ K2 (fun _ => ?_)
        clear hK K
        simp only [Act.put, List.setIfInBounds_toArray, List.set_cons_zero, List.set_cons_succ]
        refine held_mono (S' := Since w2) (fun w h => bel2 K2 h) _ _ _ _ ?_
        refine wpAnyH_take (i := 5) (oi := { dst := some 39, op := Op.convert 58 9 (Operand.tmp 38), type := 9, pos := "deep.go:16", after := #[{ on := 4, ground := Ground.data }], guard := none }) (v := .string ⟨(zeros b).toArray⟩) rfl (by kernel_rfl) (by kernel_rfl) (by kernel_rfl) (fun _ _ _ h => h) (Or.inl ⟨by rfl, fun w h => text_yield rfl rfl (Holds.below H2 h)⟩) (Below.refl _ _) ?_
        simp only [Act.put, List.setIfInBounds_toArray, List.set_cons_zero, List.set_cons_succ]
        refine wpAnyH_ready (rs := [7]) (by kernel_rfl) (by simp) ?_
        refine AllReadyH.cons (o := { dst := some 41, op := Op.makeSlice 58 (Operand.tmp 40) (Operand.tmp 40), type := 58, pos := "deep.go:16", after := #[{ on := 6, ground := Ground.data }, { on := 6, ground := Ground.data }], guard := none }) rfl (fun K hK => ?_) ?_
        · refine step_mk rfl _ rfl c (by omega) rfl ?_
          intro B3 w3 H3 K3
          refine hK.out _ _ K3 (fun _ => ?_)
          clear hK K
          simp only [Act.put, List.setIfInBounds_toArray, List.set_cons_zero, List.set_cons_succ]
          refine held_mono (S' := Since w3) (fun w h => bel2 K3 h) _ _ _ _ ?_
          refine wpAnyH_take (i := 8) (oi := { dst := some 42, op := Op.convert 58 9 (Operand.tmp 41), type := 9, pos := "deep.go:16", after := #[{ on := 7, ground := Ground.data }], guard := none }) (v := .string ⟨(zeros c).toArray⟩) rfl (by kernel_rfl) (by kernel_rfl) (by kernel_rfl) (fun _ _ _ h => h) (Or.inl ⟨by rfl, fun w h => text_yield rfl rfl (Holds.below H3 h)⟩) (Below.refl _ _) ?_
          simp only [Act.put, List.setIfInBounds_toArray, List.set_cons_zero, List.set_cons_succ]
          refine wpAnyH_ready (rs := [10]) (by kernel_rfl) (by simp) ?_
          refine AllReadyH.cons (o := { dst := some 44, op := Op.call { callee := Callee.value (Operand.func 8), args := #[Operand.tmp 36, Operand.tmp 39, Operand.tmp 42, Operand.tmp 43], argTypes := #[9, 9, 9, 3] }, type := 25, pos := "deep.go:16", after := #[{ on := 2, ground := Ground.data }, { on := 5, ground := Ground.data }, { on := 8, ground := Ground.data }, { on := 9, ground := Ground.data }], guard := none }) rfl (fun K hK => ?_) AllReadyH.nil
          go_simp
          go_wp2_with (go_at_call 8; refine (NEW.out _).mono ?_; rintro e w9 ⟨B, rfl, hB, hr, hb⟩)
          refine hK.out _ _ hb (fun hS => ?_)
          clear hK K
          try simp only [Act.put, List.setIfInBounds_toArray, List.set_cons_zero, List.set_cons_succ]
          refine wpAnyH_take (i := 11) (oi := { dst := some 33, op := Op.move (Operand.tmp 44), type := 25, pos := "deep.go:16", after := #[{ on := 10, ground := Ground.data }], guard := none }) (v := .tuple #[.pointer (some ⟨B, 0, none⟩), .int .i64 0]) rfl (by kernel_rfl) (by kernel_rfl) (by kernel_rfl) (fun _ _ _ h => h) (Or.inl ⟨by rfl, fun w h => by go_simp⟩) hS ?_
          simp only [Act.put, List.setIfInBounds_toArray, List.set_cons_zero, List.set_cons_succ]
          refine wpAnyH_take (i := 12) (oi := { dst := some 45, op := Op.extract (Operand.tmp 33) 0, type := 23, pos := "deep.go:16", after := #[{ on := 11, ground := Ground.data }], guard := none }) (v := .pointer (some ⟨B, 0, none⟩)) rfl (by kernel_rfl) (by kernel_rfl) (by kernel_rfl) (fun _ _ _ h => h) (Or.inl ⟨by rfl, fun w h => by go_simp⟩) hS ?_
          simp only [Act.put, List.setIfInBounds_toArray, List.set_cons_zero, List.set_cons_succ]
          refine wpAnyH_take (i := 13) (oi := { dst := some 46, op := Op.extract (Operand.tmp 33) 1, type := 24, pos := "deep.go:16", after := #[{ on := 11, ground := Ground.data }, { on := 14, ground := Ground.gcOnly Departure.lateStores }], guard := none }) (v := .int .i64 0) rfl (by kernel_rfl) (by kernel_rfl) (by kernel_rfl) (fun _ _ _ h => h) (Or.inl ⟨by rfl, fun w h => by go_simp⟩) hS ?_
          simp only [Act.put, List.setIfInBounds_toArray, List.set_cons_zero, List.set_cons_succ]
          refine wpAnyH_take (i := 14) (oi := { dst := some 15, op := Op.assign (Operand.tmp 45), type := 23, pos := "deep.go:16", after := #[{ on := 12, ground := Ground.data }, { on := 10, ground := Ground.chain }, { on := 0, ground := Ground.phase }, { on := 1, ground := Ground.phase }, { on := 2, ground := Ground.phase }, { on := 3, ground := Ground.phase }, { on := 4, ground := Ground.phase }, { on := 5, ground := Ground.phase }, { on := 6, ground := Ground.phase }, { on := 7, ground := Ground.phase }, { on := 8, ground := Ground.phase }, { on := 9, ground := Ground.phase }, { on := 10, ground := Ground.phase }, { on := 11, ground := Ground.phase }, { on := 12, ground := Ground.phase }, { on := 13, ground := Ground.textOnly Departure.lateStores }], guard := none }) (v := .pointer (some ⟨B, 0, none⟩)) rfl (by kernel_rfl) (by kernel_rfl) (by kernel_rfl) (fun _ _ _ h => h) (Or.inl ⟨by rfl, fun w h => by go_simp⟩) hS ?_
          simp only [Act.put, List.setIfInBounds_toArray, List.set_cons_zero, List.set_cons_succ]
          refine wpAnyH_take (i := 15) (oi := { dst := some 16, op := Op.assign (Operand.tmp 46), type := 24, pos := "deep.go:16", after := #[{ on := 13, ground := Ground.data }, { on := 14, ground := Ground.chain }, { on := 0, ground := Ground.phase }, { on := 1, ground := Ground.phase }, { on := 2, ground := Ground.phase }, { on := 3, ground := Ground.phase }, { on := 4, ground := Ground.phase }, { on := 5, ground := Ground.phase }, { on := 6, ground := Ground.phase }, { on := 7, ground := Ground.phase }, { on := 8, ground := Ground.phase }, { on := 9, ground := Ground.phase }, { on := 10, ground := Ground.phase }, { on := 11, ground := Ground.phase }, { on := 12, ground := Ground.phase }, { on := 13, ground := Ground.phase }, { on := 14, ground := Ground.phase }], guard := none }) (v := .int .i64 0) rfl (by kernel_rfl) (by kernel_rfl) (by kernel_rfl) (fun _ _ _ h => h) (Or.inl ⟨by rfl, fun w h => by go_simp⟩) hS ?_
          simp only [Act.put, List.setIfInBounds_toArray, List.set_cons_zero, List.set_cons_succ]
          refine wpAnyH_done (by kernel_rfl) ?_ _
          go_wp2_with fail
          go_meet
          exact ⟨B, rfl, rfl, Nat.le_trans (bel2 (bel2 (bel2 (bel2 B0.out (Below.refl w0.heap.size w0).drew) K1) K2) K3).size hB, hr, bel2 (bel2 (bel2 (bel2 (bel2 B0.out (Below.refl w0.heap.size w0).drew) K1) K2) K3) hb⟩
        exact AllReadyH.nil
      refine AllReadyH.cons (o := { dst := some 41, op := Op.makeSlice 58 (Operand.tmp 40) (Operand.tmp 40), type := 58, pos := "deep.go:16", after := #[{ on := 6, ground := Ground.data }, { on := 6, ground := Ground.data }], guard := none }) rfl (fun K hK => ?_) ?_
      · refine step_mk rfl _ rfl c (by omega) rfl ?_
        intro B2 w2 H2 K2
        refine hK.out _ _ K2 (fun _ => ?_)
        clear hK K
        simp only [Act.put, List.setIfInBounds_toArray, List.set_cons_zero, List.set_cons_succ]
        refine held_mono (S' := Since w2) (fun w h => bel2 K2 h) _ _ _ _ ?_
        refine wpAnyH_take (i := 8) (oi := { dst := some 42, op := Op.convert 58 9 (Operand.tmp 41), type := 9, pos := "deep.go:16", after := #[{ on := 7, ground := Ground.data }], guard := none }) (v := .string ⟨(zeros c).toArray⟩) rfl (by kernel_rfl) (by kernel_rfl) (by kernel_rfl) (fun _ _ _ h => h) (Or.inl ⟨by rfl, fun w h => text_yield rfl rfl (Holds.below H2 h)⟩) (Below.refl _ _) ?_
        simp only [Act.put, List.setIfInBounds_toArray, List.set_cons_zero, List.set_cons_succ]
        refine wpAnyH_ready (rs := [4]) (by kernel_rfl) (by simp) ?_
        refine AllReadyH.cons (o := { dst := some 38, op := Op.makeSlice 58 (Operand.tmp 37) (Operand.tmp 37), type := 58, pos := "deep.go:16", after := #[{ on := 3, ground := Ground.data }, { on := 3, ground := Ground.data }], guard := none }) rfl (fun K hK => ?_) ?_
        · refine step_mk rfl _ rfl b (by omega) rfl ?_
          intro B3 w3 H3 K3
          refine hK.out _ _ K3 (fun _ => ?_)
          clear hK K
          simp only [Act.put, List.setIfInBounds_toArray, List.set_cons_zero, List.set_cons_succ]
          refine held_mono (S' := Since w3) (fun w h => bel2 K3 h) _ _ _ _ ?_
          refine wpAnyH_take (i := 5) (oi := { dst := some 39, op := Op.convert 58 9 (Operand.tmp 38), type := 9, pos := "deep.go:16", after := #[{ on := 4, ground := Ground.data }], guard := none }) (v := .string ⟨(zeros b).toArray⟩) rfl (by kernel_rfl) (by kernel_rfl) (by kernel_rfl) (fun _ _ _ h => h) (Or.inl ⟨by rfl, fun w h => text_yield rfl rfl (Holds.below H3 h)⟩) (Below.refl _ _) ?_
          simp only [Act.put, List.setIfInBounds_toArray, List.set_cons_zero, List.set_cons_succ]
          refine wpAnyH_ready (rs := [10]) (by kernel_rfl) (by simp) ?_
          refine AllReadyH.cons (o := { dst := some 44, op := Op.call { callee := Callee.value (Operand.func 8), args := #[Operand.tmp 36, Operand.tmp 39, Operand.tmp 42, Operand.tmp 43], argTypes := #[9, 9, 9, 3] }, type := 25, pos := "deep.go:16", after := #[{ on := 2, ground := Ground.data }, { on := 5, ground := Ground.data }, { on := 8, ground := Ground.data }, { on := 9, ground := Ground.data }], guard := none }) rfl (fun K hK => ?_) AllReadyH.nil
          go_simp
          go_wp2_with (go_at_call 8; refine (NEW.out _).mono ?_; rintro e w9 ⟨B, rfl, hB, hr, hb⟩)
          refine hK.out _ _ hb (fun hS => ?_)
          clear hK K
          try simp only [Act.put, List.setIfInBounds_toArray, List.set_cons_zero, List.set_cons_succ]
          refine wpAnyH_take (i := 11) (oi := { dst := some 33, op := Op.move (Operand.tmp 44), type := 25, pos := "deep.go:16", after := #[{ on := 10, ground := Ground.data }], guard := none }) (v := .tuple #[.pointer (some ⟨B, 0, none⟩), .int .i64 0]) rfl (by kernel_rfl) (by kernel_rfl) (by kernel_rfl) (fun _ _ _ h => h) (Or.inl ⟨by rfl, fun w h => by go_simp⟩) hS ?_
          simp only [Act.put, List.setIfInBounds_toArray, List.set_cons_zero, List.set_cons_succ]
          refine wpAnyH_take (i := 12) (oi := { dst := some 45, op := Op.extract (Operand.tmp 33) 0, type := 23, pos := "deep.go:16", after := #[{ on := 11, ground := Ground.data }], guard := none }) (v := .pointer (some ⟨B, 0, none⟩)) rfl (by kernel_rfl) (by kernel_rfl) (by kernel_rfl) (fun _ _ _ h => h) (Or.inl ⟨by rfl, fun w h => by go_simp⟩) hS ?_
          simp only [Act.put, List.setIfInBounds_toArray, List.set_cons_zero, List.set_cons_succ]
          refine wpAnyH_take (i := 13) (oi := { dst := some 46, op := Op.extract (Operand.tmp 33) 1, type := 24, pos := "deep.go:16", after := #[{ on := 11, ground := Ground.data }, { on := 14, ground := Ground.gcOnly Departure.lateStores }], guard := none }) (v := .int .i64 0) rfl (by kernel_rfl) (by kernel_rfl) (by kernel_rfl) (fun _ _ _ h => h) (Or.inl ⟨by rfl, fun w h => by go_simp⟩) hS ?_
          simp only [Act.put, List.setIfInBounds_toArray, List.set_cons_zero, List.set_cons_succ]
          refine wpAnyH_take (i := 14) (oi := { dst := some 15, op := Op.assign (Operand.tmp 45), type := 23, pos := "deep.go:16", after := #[{ on := 12, ground := Ground.data }, { on := 10, ground := Ground.chain }, { on := 0, ground := Ground.phase }, { on := 1, ground := Ground.phase }, { on := 2, ground := Ground.phase }, { on := 3, ground := Ground.phase }, { on := 4, ground := Ground.phase }, { on := 5, ground := Ground.phase }, { on := 6, ground := Ground.phase }, { on := 7, ground := Ground.phase }, { on := 8, ground := Ground.phase }, { on := 9, ground := Ground.phase }, { on := 10, ground := Ground.phase }, { on := 11, ground := Ground.phase }, { on := 12, ground := Ground.phase }, { on := 13, ground := Ground.textOnly Departure.lateStores }], guard := none }) (v := .pointer (some ⟨B, 0, none⟩)) rfl (by kernel_rfl) (by kernel_rfl) (by kernel_rfl) (fun _ _ _ h => h) (Or.inl ⟨by rfl, fun w h => by go_simp⟩) hS ?_
          simp only [Act.put, List.setIfInBounds_toArray, List.set_cons_zero, List.set_cons_succ]
          refine wpAnyH_take (i := 15) (oi := { dst := some 16, op := Op.assign (Operand.tmp 46), type := 24, pos := "deep.go:16", after := #[{ on := 13, ground := Ground.data }, { on := 14, ground := Ground.chain }, { on := 0, ground := Ground.phase }, { on := 1, ground := Ground.phase }, { on := 2, ground := Ground.phase }, { on := 3, ground := Ground.phase }, { on := 4, ground := Ground.phase }, { on := 5, ground := Ground.phase }, { on := 6, ground := Ground.phase }, { on := 7, ground := Ground.phase }, { on := 8, ground := Ground.phase }, { on := 9, ground := Ground.phase }, { on := 10, ground := Ground.phase }, { on := 11, ground := Ground.phase }, { on := 12, ground := Ground.phase }, { on := 13, ground := Ground.phase }, { on := 14, ground := Ground.phase }], guard := none }) (v := .int .i64 0) rfl (by kernel_rfl) (by kernel_rfl) (by kernel_rfl) (fun _ _ _ h => h) (Or.inl ⟨by rfl, fun w h => by go_simp⟩) hS ?_
          simp only [Act.put, List.setIfInBounds_toArray, List.set_cons_zero, List.set_cons_succ]
          refine wpAnyH_done (by kernel_rfl) ?_ _
          go_wp2_with fail
          go_meet
          exact ⟨B, rfl, rfl, Nat.le_trans (bel2 (bel2 (bel2 (bel2 B0.out (Below.refl w0.heap.size w0).drew) K1) K2) K3).size hB, hr, bel2 (bel2 (bel2 (bel2 (bel2 B0.out (Below.refl w0.heap.size w0).drew) K1) K2) K3) hb⟩
        exact AllReadyH.nil
      exact AllReadyH.nil
    refine AllReadyH.cons (o := { dst := some 38, op := Op.makeSlice 58 (Operand.tmp 37) (Operand.tmp 37), type := 58, pos := "deep.go:16", after := #[{ on := 3, ground := Ground.data }, { on := 3, ground := Ground.data }], guard := none }) rfl (fun K hK => ?_) ?_
    · refine step_mk rfl _ rfl b (by omega) rfl ?_
      intro B1 w1 H1 K1
      refine hK.out _ _ K1 (fun _ => ?_)
      clear hK K
      simp only [Act.put, List.setIfInBounds_toArray, List.set_cons_zero, List.set_cons_succ]
      refine held_mono (S' := Since w1) (fun w h => bel2 K1 h) _ _ _ _ ?_
      refine wpAnyH_take (i := 5) (oi := { dst := some 39, op := Op.convert 58 9 (Operand.tmp 38), type := 9, pos := "deep.go:16", after := #[{ on := 4, ground := Ground.data }], guard := none }) (v := .string ⟨(zeros b).toArray⟩) rfl (by kernel_rfl) (by kernel_rfl) (by kernel_rfl) (fun _ _ _ h => h) (Or.inl ⟨by rfl, fun w h => text_yield rfl rfl (Holds.below H1 h)⟩) (Below.refl _ _) ?_
      simp only [Act.put, List.setIfInBounds_toArray, List.set_cons_zero, List.set_cons_succ]
      refine wpAnyH_ready (rs := [1, 7]) (by kernel_rfl) (by simp) ?_
      refine AllReadyH.cons (o := { dst := some 35, op := Op.makeSlice 58 (Operand.tmp 34) (Operand.tmp 34), type := 58, pos := "deep.go:16", after := #[{ on := 0, ground := Ground.data }, { on := 0, ground := Ground.data }], guard := none }) rfl (fun K hK => ?_) ?_
      · refine step_mk rfl _ rfl a (by omega) rfl ?_
        intro B2 w2 H2 K2
        refine hK.out _ _ K2 (fun _ => ?_)
        clear hK K
        simp only [Act.put, List.setIfInBounds_toArray, List.set_cons_zero, List.set_cons_succ]
        refine held_mono (S' := Since w2) (fun w h => bel2 K2 h) _ _ _ _ ?_
        refine wpAnyH_take (i := 2) (oi := { dst := some 36, op := Op.convert 58 9 (Operand.tmp 35), type := 9, pos := "deep.go:16", after := #[{ on := 1, ground := Ground.data }], guard := none }) (v := .string ⟨(zeros a).toArray⟩) rfl (by kernel_rfl) (by kernel_rfl) (by kernel_rfl) (fun _ _ _ h => h) (Or.inl ⟨by rfl, fun w h => text_yield rfl rfl (Holds.below H2 h)⟩) (Below.refl _ _) ?_
        simp only [Act.put, List.setIfInBounds_toArray, List.set_cons_zero, List.set_cons_succ]
        refine wpAnyH_ready (rs := [7]) (by kernel_rfl) (by simp) ?_
        refine AllReadyH.cons (o := { dst := some 41, op := Op.makeSlice 58 (Operand.tmp 40) (Operand.tmp 40), type := 58, pos := "deep.go:16", after := #[{ on := 6, ground := Ground.data }, { on := 6, ground := Ground.data }], guard := none }) rfl (fun K hK => ?_) ?_
        · refine step_mk rfl _ rfl c (by omega) rfl ?_
          intro B3 w3 H3 K3
          refine hK.out _ _ K3 (fun _ => ?_)
          clear hK K
          simp only [Act.put, List.setIfInBounds_toArray, List.set_cons_zero, List.set_cons_succ]
          refine held_mono (S' := Since w3) (fun w h => bel2 K3 h) _ _ _ _ ?_
          refine wpAnyH_take (i := 8) (oi := { dst := some 42, op := Op.convert 58 9 (Operand.tmp 41), type := 9, pos := "deep.go:16", after := #[{ on := 7, ground := Ground.data }], guard := none }) (v := .string ⟨(zeros c).toArray⟩) rfl (by kernel_rfl) (by kernel_rfl) (by kernel_rfl) (fun _ _ _ h => h) (Or.inl ⟨by rfl, fun w h => text_yield rfl rfl (Holds.below H3 h)⟩) (Below.refl _ _) ?_
          simp only [Act.put, List.setIfInBounds_toArray, List.set_cons_zero, List.set_cons_succ]
          refine wpAnyH_ready (rs := [10]) (by kernel_rfl) (by simp) ?_
          refine AllReadyH.cons (o := { dst := some 44, op := Op.call { callee := Callee.value (Operand.func 8), args := #[Operand.tmp 36, Operand.tmp 39, Operand.tmp 42, Operand.tmp 43], argTypes := #[9, 9, 9, 3] }, type := 25, pos := "deep.go:16", after := #[{ on := 2, ground := Ground.data }, { on := 5, ground := Ground.data }, { on := 8, ground := Ground.data }, { on := 9, ground := Ground.data }], guard := none }) rfl (fun K hK => ?_) AllReadyH.nil
          go_simp
          go_wp2_with (go_at_call 8; refine (NEW.out _).mono ?_; rintro e w9 ⟨B, rfl, hB, hr, hb⟩)
          refine hK.out _ _ hb (fun hS => ?_)
          clear hK K
          try simp only [Act.put, List.setIfInBounds_toArray, List.set_cons_zero, List.set_cons_succ]
          refine wpAnyH_take (i := 11) (oi := { dst := some 33, op := Op.move (Operand.tmp 44), type := 25, pos := "deep.go:16", after := #[{ on := 10, ground := Ground.data }], guard := none }) (v := .tuple #[.pointer (some ⟨B, 0, none⟩), .int .i64 0]) rfl (by kernel_rfl) (by kernel_rfl) (by kernel_rfl) (fun _ _ _ h => h) (Or.inl ⟨by rfl, fun w h => by go_simp⟩) hS ?_
          simp only [Act.put, List.setIfInBounds_toArray, List.set_cons_zero, List.set_cons_succ]
          refine wpAnyH_take (i := 12) (oi := { dst := some 45, op := Op.extract (Operand.tmp 33) 0, type := 23, pos := "deep.go:16", after := #[{ on := 11, ground := Ground.data }], guard := none }) (v := .pointer (some ⟨B, 0, none⟩)) rfl (by kernel_rfl) (by kernel_rfl) (by kernel_rfl) (fun _ _ _ h => h) (Or.inl ⟨by rfl, fun w h => by go_simp⟩) hS ?_
          simp only [Act.put, List.setIfInBounds_toArray, List.set_cons_zero, List.set_cons_succ]
          refine wpAnyH_take (i := 13) (oi := { dst := some 46, op := Op.extract (Operand.tmp 33) 1, type := 24, pos := "deep.go:16", after := #[{ on := 11, ground := Ground.data }, { on := 14, ground := Ground.gcOnly Departure.lateStores }], guard := none }) (v := .int .i64 0) rfl (by kernel_rfl) (by kernel_rfl) (by kernel_rfl) (fun _ _ _ h => h) (Or.inl ⟨by rfl, fun w h => by go_simp⟩) hS ?_
          simp only [Act.put, List.setIfInBounds_toArray, List.set_cons_zero, List.set_cons_succ]
          refine wpAnyH_take (i := 14) (oi := { dst := some 15, op := Op.assign (Operand.tmp 45), type := 23, pos := "deep.go:16", after := #[{ on := 12, ground := Ground.data }, { on := 10, ground := Ground.chain }, { on := 0, ground := Ground.phase }, { on := 1, ground := Ground.phase }, { on := 2, ground := Ground.phase }, { on := 3, ground := Ground.phase }, { on := 4, ground := Ground.phase }, { on := 5, ground := Ground.phase }, { on := 6, ground := Ground.phase }, { on := 7, ground := Ground.phase }, { on := 8, ground := Ground.phase }, { on := 9, ground := Ground.phase }, { on := 10, ground := Ground.phase }, { on := 11, ground := Ground.phase }, { on := 12, ground := Ground.phase }, { on := 13, ground := Ground.textOnly Departure.lateStores }], guard := none }) (v := .pointer (some ⟨B, 0, none⟩)) rfl (by kernel_rfl) (by kernel_rfl) (by kernel_rfl) (fun _ _ _ h => h) (Or.inl ⟨by rfl, fun w h => by go_simp⟩) hS ?_
          simp only [Act.put, List.setIfInBounds_toArray, List.set_cons_zero, List.set_cons_succ]
          refine wpAnyH_take (i := 15) (oi := { dst := some 16, op := Op.assign (Operand.tmp 46), type := 24, pos := "deep.go:16", after := #[{ on := 13, ground := Ground.data }, { on := 14, ground := Ground.chain }, { on := 0, ground := Ground.phase }, { on := 1, ground := Ground.phase }, { on := 2, ground := Ground.phase }, { on := 3, ground := Ground.phase }, { on := 4, ground := Ground.phase }, { on := 5, ground := Ground.phase }, { on := 6, ground := Ground.phase }, { on := 7, ground := Ground.phase }, { on := 8, ground := Ground.phase }, { on := 9, ground := Ground.phase }, { on := 10, ground := Ground.phase }, { on := 11, ground := Ground.phase }, { on := 12, ground := Ground.phase }, { on := 13, ground := Ground.phase }, { on := 14, ground := Ground.phase }], guard := none }) (v := .int .i64 0) rfl (by kernel_rfl) (by kernel_rfl) (by kernel_rfl) (fun _ _ _ h => h) (Or.inl ⟨by rfl, fun w h => by go_simp⟩) hS ?_
          simp only [Act.put, List.setIfInBounds_toArray, List.set_cons_zero, List.set_cons_succ]
          refine wpAnyH_done (by kernel_rfl) ?_ _
          go_wp2_with fail
          go_meet
          exact ⟨B, rfl, rfl, Nat.le_trans (bel2 (bel2 (bel2 (bel2 B0.out (Below.refl w0.heap.size w0).drew) K1) K2) K3).size hB, hr, bel2 (bel2 (bel2 (bel2 (bel2 B0.out (Below.refl w0.heap.size w0).drew) K1) K2) K3) hb⟩
        exact AllReadyH.nil
      refine AllReadyH.cons (o := { dst := some 41, op := Op.makeSlice 58 (Operand.tmp 40) (Operand.tmp 40), type := 58, pos := "deep.go:16", after := #[{ on := 6, ground := Ground.data }, { on := 6, ground := Ground.data }], guard := none }) rfl (fun K hK => ?_) ?_
      · refine step_mk rfl _ rfl c (by omega) rfl ?_
        intro B2 w2 H2 K2
        refine hK.out _ _ K2 (fun _ => ?_)
        clear hK K
        simp only [Act.put, List.setIfInBounds_toArray, List.set_cons_zero, List.set_cons_succ]
        refine held_mono (S' := Since w2) (fun w h => bel2 K2 h) _ _ _ _ ?_
        refine wpAnyH_take (i := 8) (oi := { dst := some 42, op := Op.convert 58 9 (Operand.tmp 41), type := 9, pos := "deep.go:16", after := #[{ on := 7, ground := Ground.data }], guard := none }) (v := .string ⟨(zeros c).toArray⟩) rfl (by kernel_rfl) (by kernel_rfl) (by kernel_rfl) (fun _ _ _ h => h) (Or.inl ⟨by rfl, fun w h => text_yield rfl rfl (Holds.below H2 h)⟩) (Below.refl _ _) ?_
        simp only [Act.put, List.setIfInBounds_toArray, List.set_cons_zero, List.set_cons_succ]
        refine wpAnyH_ready (rs := [1]) (by kernel_rfl) (by simp) ?_
        refine AllReadyH.cons (o := { dst := some 35, op := Op.makeSlice 58 (Operand.tmp 34) (Operand.tmp 34), type := 58, pos := "deep.go:16", after := #[{ on := 0, ground := Ground.data }, { on := 0, ground := Ground.data }], guard := none }) rfl (fun K hK => ?_) ?_
        · refine step_mk rfl _ rfl a (by omega) rfl ?_
          intro B3 w3 H3 K3
          refine hK.out _ _ K3 (fun _ => ?_)
          clear hK K
          simp only [Act.put, List.setIfInBounds_toArray, List.set_cons_zero, List.set_cons_succ]
          refine held_mono (S' := Since w3) (fun w h => bel2 K3 h) _ _ _ _ ?_
          refine wpAnyH_take (i := 2) (oi := { dst := some 36, op := Op.convert 58 9 (Operand.tmp 35), type := 9, pos := "deep.go:16", after := #[{ on := 1, ground := Ground.data }], guard := none }) (v := .string ⟨(zeros a).toArray⟩) rfl (by kernel_rfl) (by kernel_rfl) (by kernel_rfl) (fun _ _ _ h => h) (Or.inl ⟨by rfl, fun w h => text_yield rfl rfl (Holds.below H3 h)⟩) (Below.refl _ _) ?_
          simp only [Act.put, List.setIfInBounds_toArray, List.set_cons_zero, List.set_cons_succ]
          refine wpAnyH_ready (rs := [10]) (by kernel_rfl) (by simp) ?_
          refine AllReadyH.cons (o := { dst := some 44, op := Op.call { callee := Callee.value (Operand.func 8), args := #[Operand.tmp 36, Operand.tmp 39, Operand.tmp 42, Operand.tmp 43], argTypes := #[9, 9, 9, 3] }, type := 25, pos := "deep.go:16", after := #[{ on := 2, ground := Ground.data }, { on := 5, ground := Ground.data }, { on := 8, ground := Ground.data }, { on := 9, ground := Ground.data }], guard := none }) rfl (fun K hK => ?_) AllReadyH.nil
          go_simp
          go_wp2_with (go_at_call 8; refine (NEW.out _).mono ?_; rintro e w9 ⟨B, rfl, hB, hr, hb⟩)
          refine hK.out _ _ hb (fun hS => ?_)
          clear hK K
          try simp only [Act.put, List.setIfInBounds_toArray, List.set_cons_zero, List.set_cons_succ]
          refine wpAnyH_take (i := 11) (oi := { dst := some 33, op := Op.move (Operand.tmp 44), type := 25, pos := "deep.go:16", after := #[{ on := 10, ground := Ground.data }], guard := none }) (v := .tuple #[.pointer (some ⟨B, 0, none⟩), .int .i64 0]) rfl (by kernel_rfl) (by kernel_rfl) (by kernel_rfl) (fun _ _ _ h => h) (Or.inl ⟨by rfl, fun w h => by go_simp⟩) hS ?_
          simp only [Act.put, List.setIfInBounds_toArray, List.set_cons_zero, List.set_cons_succ]
          refine wpAnyH_take (i := 12) (oi := { dst := some 45, op := Op.extract (Operand.tmp 33) 0, type := 23, pos := "deep.go:16", after := #[{ on := 11, ground := Ground.data }], guard := none }) (v := .pointer (some ⟨B, 0, none⟩)) rfl (by kernel_rfl) (by kernel_rfl) (by kernel_rfl) (fun _ _ _ h => h) (Or.inl ⟨by rfl, fun w h => by go_simp⟩) hS ?_
          simp only [Act.put, List.setIfInBounds_toArray, List.set_cons_zero, List.set_cons_succ]
          refine wpAnyH_take (i := 13) (oi := { dst := some 46, op := Op.extract (Operand.tmp 33) 1, type := 24, pos := "deep.go:16", after := #[{ on := 11, ground := Ground.data }, { on := 14, ground := Ground.gcOnly Departure.lateStores }], guard := none }) (v := .int .i64 0) rfl (by kernel_rfl) (by kernel_rfl) (by kernel_rfl) (fun _ _ _ h => h) (Or.inl ⟨by rfl, fun w h => by go_simp⟩) hS ?_
          simp only [Act.put, List.setIfInBounds_toArray, List.set_cons_zero, List.set_cons_succ]
          refine wpAnyH_take (i := 14) (oi := { dst := some 15, op := Op.assign (Operand.tmp 45), type := 23, pos := "deep.go:16", after := #[{ on := 12, ground := Ground.data }, { on := 10, ground := Ground.chain }, { on := 0, ground := Ground.phase }, { on := 1, ground := Ground.phase }, { on := 2, ground := Ground.phase }, { on := 3, ground := Ground.phase }, { on := 4, ground := Ground.phase }, { on := 5, ground := Ground.phase }, { on := 6, ground := Ground.phase }, { on := 7, ground := Ground.phase }, { on := 8, ground := Ground.phase }, { on := 9, ground := Ground.phase }, { on := 10, ground := Ground.phase }, { on := 11, ground := Ground.phase }, { on := 12, ground := Ground.phase }, { on := 13, ground := Ground.textOnly Departure.lateStores }], guard := none }) (v := .pointer (some ⟨B, 0, none⟩)) rfl (by kernel_rfl) (by kernel_rfl) (by kernel_rfl) (fun _ _ _ h => h) (Or.inl ⟨by rfl, fun w h => by go_simp⟩) hS ?_
          simp only [Act.put, List.setIfInBounds_toArray, List.set_cons_zero, List.set_cons_succ]
          refine wpAnyH_take (i := 15) (oi := { dst := some 16, op := Op.assign (Operand.tmp 46), type := 24, pos := "deep.go:16", after := #[{ on := 13, ground := Ground.data }, { on := 14, ground := Ground.chain }, { on := 0, ground := Ground.phase }, { on := 1, ground := Ground.phase }, { on := 2, ground := Ground.phase }, { on := 3, ground := Ground.phase }, { on := 4, ground := Ground.phase }, { on := 5, ground := Ground.phase }, { on := 6, ground := Ground.phase }, { on := 7, ground := Ground.phase }, { on := 8, ground := Ground.phase }, { on := 9, ground := Ground.phase }, { on := 10, ground := Ground.phase }, { on := 11, ground := Ground.phase }, { on := 12, ground := Ground.phase }, { on := 13, ground := Ground.phase }, { on := 14, ground := Ground.phase }], guard := none }) (v := .int .i64 0) rfl (by kernel_rfl) (by kernel_rfl) (by kernel_rfl) (fun _ _ _ h => h) (Or.inl ⟨by rfl, fun w h => by go_simp⟩) hS ?_
          simp only [Act.put, List.setIfInBounds_toArray, List.set_cons_zero, List.set_cons_succ]
          refine wpAnyH_done (by kernel_rfl) ?_ _
          go_wp2_with fail
          go_meet
          exact ⟨B, rfl, rfl, Nat.le_trans (bel2 (bel2 (bel2 (bel2 B0.out (Below.refl w0.heap.size w0).drew) K1) K2) K3).size hB, hr, bel2 (bel2 (bel2 (bel2 (bel2 B0.out (Below.refl w0.heap.size w0).drew) K1) K2) K3) hb⟩
        exact AllReadyH.nil
      exact AllReadyH.nil
    refine AllReadyH.cons (o := { dst := some 41, op := Op.makeSlice 58 (Operand.tmp 40) (Operand.tmp 40), type := 58, pos := "deep.go:16", after := #[{ on := 6, ground := Ground.data }, { on := 6, ground := Ground.data }], guard := none }) rfl (fun K hK => ?_) ?_
    · refine step_mk rfl _ rfl c (by omega) rfl ?_
      intro B1 w1 H1 K1
      refine hK.out _ _ K1 (fun _ => ?_)
      clear hK K
      simp only [Act.put, List.setIfInBounds_toArray, List.set_cons_zero, List.set_cons_succ]
      refine held_mono (S' := Since w1) (fun w h => bel2 K1 h) _ _ _ _ ?_
      refine wpAnyH_take (i := 8) (oi := { dst := some 42, op := Op.convert 58 9 (Operand.tmp 41), type := 9, pos := "deep.go:16", after := #[{ on := 7, ground := Ground.data }], guard := none }) (v := .string ⟨(zeros c).toArray⟩) rfl (by kernel_rfl) (by kernel_rfl) (by kernel_rfl) (fun _ _ _ h => h) (Or.inl ⟨by rfl, fun w h => text_yield rfl rfl (Holds.below H1 h)⟩) (Below.refl _ _) ?_
      simp only [Act.put, List.setIfInBounds_toArray, List.set_cons_zero, List.set_cons_succ]
      refine wpAnyH_ready (rs := [1, 4]) (by kernel_rfl) (by simp) ?_
      refine AllReadyH.cons (o := { dst := some 35, op := Op.makeSlice 58 (Operand.tmp 34) (Operand.tmp 34), type := 58, pos := "deep.go:16", after := #[{ on := 0, ground := Ground.data }, { on := 0, ground := Ground.data }], guard := none }) rfl (fun K hK => ?_) ?_
      · refine step_mk rfl _ rfl a (by omega) rfl ?_
        intro B2 w2 H2 K2
        refine hK.out _ _ K2 (fun _ => ?_)
        clear hK K
        simp only [Act.put, List.setIfInBounds_toArray, List.set_cons_zero, List.set_cons_succ]
        refine held_mono (S' := Since w2) (fun w h => bel2 K2 h) _ _ _ _ ?_
        refine wpAnyH_take (i := 2) (oi := { dst := some 36, op := Op.convert 58 9 (Operand.tmp 35), type := 9, pos := "deep.go:16", after := #[{ on := 1, ground := Ground.data }], guard := none }) (v := .string ⟨(zeros a).toArray⟩) rfl (by kernel_rfl) (by kernel_rfl) (by kernel_rfl) (fun _ _ _ h => h) (Or.inl ⟨by rfl, fun w h => text_yield rfl rfl (Holds.below H2 h)⟩) (Below.refl _ _) ?_
        simp only [Act.put, List.setIfInBounds_toArray, List.set_cons_zero, List.set_cons_succ]
        refine wpAnyH_ready (rs := [4]) (by kernel_rfl) (by simp) ?_
        refine AllReadyH.cons (o := { dst := some 38, op := Op.makeSlice 58 (Operand.tmp 37) (Operand.tmp 37), type := 58, pos := "deep.go:16", after := #[{ on := 3, ground := Ground.data }, { on := 3, ground := Ground.data }], guard := none }) rfl (fun K hK => ?_) ?_
        · refine step_mk rfl _ rfl b (by omega) rfl ?_
          intro B3 w3 H3 K3
          refine hK.out _ _ K3 (fun _ => ?_)
          clear hK K
          simp only [Act.put, List.setIfInBounds_toArray, List.set_cons_zero, List.set_cons_succ]
          refine held_mono (S' := Since w3) (fun w h => bel2 K3 h) _ _ _ _ ?_
          refine wpAnyH_take (i := 5) (oi := { dst := some 39, op := Op.convert 58 9 (Operand.tmp 38), type := 9, pos := "deep.go:16", after := #[{ on := 4, ground := Ground.data }], guard := none }) (v := .string ⟨(zeros b).toArray⟩) rfl (by kernel_rfl) (by kernel_rfl) (by kernel_rfl) (fun _ _ _ h => h) (Or.inl ⟨by rfl, fun w h => text_yield rfl rfl (Holds.below H3 h)⟩) (Below.refl _ _) ?_
          simp only [Act.put, List.setIfInBounds_toArray, List.set_cons_zero, List.set_cons_succ]
          refine wpAnyH_ready (rs := [10]) (by kernel_rfl) (by simp) ?_
          refine AllReadyH.cons (o := { dst := some 44, op := Op.call { callee := Callee.value (Operand.func 8), args := #[Operand.tmp 36, Operand.tmp 39, Operand.tmp 42, Operand.tmp 43], argTypes := #[9, 9, 9, 3] }, type := 25, pos := "deep.go:16", after := #[{ on := 2, ground := Ground.data }, { on := 5, ground := Ground.data }, { on := 8, ground := Ground.data }, { on := 9, ground := Ground.data }], guard := none }) rfl (fun K hK => ?_) AllReadyH.nil
          go_simp
          go_wp2_with (go_at_call 8; refine (NEW.out _).mono ?_; rintro e w9 ⟨B, rfl, hB, hr, hb⟩)
          refine hK.out _ _ hb (fun hS => ?_)
          clear hK K
          try simp only [Act.put, List.setIfInBounds_toArray, List.set_cons_zero, List.set_cons_succ]
          refine wpAnyH_take (i := 11) (oi := { dst := some 33, op := Op.move (Operand.tmp 44), type := 25, pos := "deep.go:16", after := #[{ on := 10, ground := Ground.data }], guard := none }) (v := .tuple #[.pointer (some ⟨B, 0, none⟩), .int .i64 0]) rfl (by kernel_rfl) (by kernel_rfl) (by kernel_rfl) (fun _ _ _ h => h) (Or.inl ⟨by rfl, fun w h => by go_simp⟩) hS ?_
          simp only [Act.put, List.setIfInBounds_toArray, List.set_cons_zero, List.set_cons_succ]
          refine wpAnyH_take (i := 12) (oi := { dst := some 45, op := Op.extract (Operand.tmp 33) 0, type := 23, pos := "deep.go:16", after := #[{ on := 11, ground := Ground.data }], guard := none }) (v := .pointer (some ⟨B, 0, none⟩)) rfl (by kernel_rfl) (by kernel_rfl) (by kernel_rfl) (fun _ _ _ h => h) (Or.inl ⟨by rfl, fun w h => by go_simp⟩) hS ?_
          simp only [Act.put, List.setIfInBounds_toArray, List.set_cons_zero, List.set_cons_succ]
          refine wpAnyH_take (i := 13) (oi := { dst := some 46, op := Op.extract (Operand.tmp 33) 1, type := 24, pos := "deep.go:16", after := #[{ on := 11, ground := Ground.data }, { on := 14, ground := Ground.gcOnly Departure.lateStores }], guard := none }) (v := .int .i64 0) rfl (by kernel_rfl) (by kernel_rfl) (by kernel_rfl) (fun _ _ _ h => h) (Or.inl ⟨by rfl, fun w h => by go_simp⟩) hS ?_
          simp only [Act.put, List.setIfInBounds_toArray, List.set_cons_zero, List.set_cons_succ]
          refine wpAnyH_take (i := 14) (oi := { dst := some 15, op := Op.assign (Operand.tmp 45), type := 23, pos := "deep.go:16", after := #[{ on := 12, ground := Ground.data }, { on := 10, ground := Ground.chain }, { on := 0, ground := Ground.phase }, { on := 1, ground := Ground.phase }, { on := 2, ground := Ground.phase }, { on := 3, ground := Ground.phase }, { on := 4, ground := Ground.phase }, { on := 5, ground := Ground.phase }, { on := 6, ground := Ground.phase }, { on := 7, ground := Ground.phase }, { on := 8, ground := Ground.phase }, { on := 9, ground := Ground.phase }, { on := 10, ground := Ground.phase }, { on := 11, ground := Ground.phase }, { on := 12, ground := Ground.phase }, { on := 13, ground := Ground.textOnly Departure.lateStores }], guard := none }) (v := .pointer (some ⟨B, 0, none⟩)) rfl (by kernel_rfl) (by kernel_rfl) (by kernel_rfl) (fun _ _ _ h => h) (Or.inl ⟨by rfl, fun w h => by go_simp⟩) hS ?_
          simp only [Act.put, List.setIfInBounds_toArray, List.set_cons_zero, List.set_cons_succ]
          refine wpAnyH_take (i := 15) (oi := { dst := some 16, op := Op.assign (Operand.tmp 46), type := 24, pos := "deep.go:16", after := #[{ on := 13, ground := Ground.data }, { on := 14, ground := Ground.chain }, { on := 0, ground := Ground.phase }, { on := 1, ground := Ground.phase }, { on := 2, ground := Ground.phase }, { on := 3, ground := Ground.phase }, { on := 4, ground := Ground.phase }, { on := 5, ground := Ground.phase }, { on := 6, ground := Ground.phase }, { on := 7, ground := Ground.phase }, { on := 8, ground := Ground.phase }, { on := 9, ground := Ground.phase }, { on := 10, ground := Ground.phase }, { on := 11, ground := Ground.phase }, { on := 12, ground := Ground.phase }, { on := 13, ground := Ground.phase }, { on := 14, ground := Ground.phase }], guard := none }) (v := .int .i64 0) rfl (by kernel_rfl) (by kernel_rfl) (by kernel_rfl) (fun _ _ _ h => h) (Or.inl ⟨by rfl, fun w h => by go_simp⟩) hS ?_
          simp only [Act.put, List.setIfInBounds_toArray, List.set_cons_zero, List.set_cons_succ]
          refine wpAnyH_done (by kernel_rfl) ?_ _
          go_wp2_with fail
          go_meet
          exact ⟨B, rfl, rfl, Nat.le_trans (bel2 (bel2 (bel2 (bel2 B0.out (Below.refl w0.heap.size w0).drew) K1) K2) K3).size hB, hr, bel2 (bel2 (bel2 (bel2 (bel2 B0.out (Below.refl w0.heap.size w0).drew) K1) K2) K3) hb⟩
        exact AllReadyH.nil
      refine AllReadyH.cons (o := { dst := some 38, op := Op.makeSlice 58 (Operand.tmp 37) (Operand.tmp 37), type := 58, pos := "deep.go:16", after := #[{ on := 3, ground := Ground.data }, { on := 3, ground := Ground.data }], guard := none }) rfl (fun K hK => ?_) ?_
      · refine step_mk rfl _ rfl b (by omega) rfl ?_
        intro B2 w2 H2 K2
        refine hK.out _ _ K2 (fun _ => ?_)
        clear hK K
        simp only [Act.put, List.setIfInBounds_toArray, List.set_cons_zero, List.set_cons_succ]
        refine held_mono (S' := Since w2) (fun w h => bel2 K2 h) _ _ _ _ ?_
        refine wpAnyH_take (i := 5) (oi := { dst := some 39, op := Op.convert 58 9 (Operand.tmp 38), type := 9, pos := "deep.go:16", after := #[{ on := 4, ground := Ground.data }], guard := none }) (v := .string ⟨(zeros b).toArray⟩) rfl (by kernel_rfl) (by kernel_rfl) (by kernel_rfl) (fun _ _ _ h => h) (Or.inl ⟨by rfl, fun w h => text_yield rfl rfl (Holds.below H2 h)⟩) (Below.refl _ _) ?_
        simp only [Act.put, List.setIfInBounds_toArray, List.set_cons_zero, List.set_cons_succ]
        refine wpAnyH_ready (rs := [1]) (by kernel_rfl) (by simp) ?_
        refine AllReadyH.cons (o := { dst := some 35, op := Op.makeSlice 58 (Operand.tmp 34) (Operand.tmp 34), type := 58, pos := "deep.go:16", after := #[{ on := 0, ground := Ground.data }, { on := 0, ground := Ground.data }], guard := none }) rfl (fun K hK => ?_) ?_
        · refine step_mk rfl _ rfl a (by omega) rfl ?_
          intro B3 w3 H3 K3
          refine hK.out _ _ K3 (fun _ => ?_)
          clear hK K
          simp only [Act.put, List.setIfInBounds_toArray, List.set_cons_zero, List.set_cons_succ]
          refine held_mono (S' := Since w3) (fun w h => bel2 K3 h) _ _ _ _ ?_
          refine wpAnyH_take (i := 2) (oi := { dst := some 36, op := Op.convert 58 9 (Operand.tmp 35), type := 9, pos := "deep.go:16", after := #[{ on := 1, ground := Ground.data }], guard := none }) (v := .string ⟨(zeros a).toArray⟩) rfl (by kernel_rfl) (by kernel_rfl) (by kernel_rfl) (fun _ _ _ h => h) (Or.inl ⟨by rfl, fun w h => text_yield rfl rfl (Holds.below H3 h)⟩) (Below.refl _ _) ?_
          simp only [Act.put, List.setIfInBounds_toArray, List.set_cons_zero, List.set_cons_succ]
          refine wpAnyH_ready (rs := [10]) (by kernel_rfl) (by simp) ?_
          refine AllReadyH.cons (o := { dst := some 44, op := Op.call { callee := Callee.value (Operand.func 8), args := #[Operand.tmp 36, Operand.tmp 39, Operand.tmp 42, Operand.tmp 43], argTypes := #[9, 9, 9, 3] }, type := 25, pos := "deep.go:16", after := #[{ on := 2, ground := Ground.data }, { on := 5, ground := Ground.data }, { on := 8, ground := Ground.data }, { on := 9, ground := Ground.data }], guard := none }) rfl (fun K hK => ?_) AllReadyH.nil
          go_simp
          go_wp2_with (go_at_call 8; refine (NEW.out _).mono ?_; rintro e w9 ⟨B, rfl, hB, hr, hb⟩)
          refine hK.out _ _ hb (fun hS => ?_)
          clear hK K
          try simp only [Act.put, List.setIfInBounds_toArray, List.set_cons_zero, List.set_cons_succ]
          refine wpAnyH_take (i := 11) (oi := { dst := some 33, op := Op.move (Operand.tmp 44), type := 25, pos := "deep.go:16", after := #[{ on := 10, ground := Ground.data }], guard := none }) (v := .tuple #[.pointer (some ⟨B, 0, none⟩), .int .i64 0]) rfl (by kernel_rfl) (by kernel_rfl) (by kernel_rfl) (fun _ _ _ h => h) (Or.inl ⟨by rfl, fun w h => by go_simp⟩) hS ?_
          simp only [Act.put, List.setIfInBounds_toArray, List.set_cons_zero, List.set_cons_succ]
          refine wpAnyH_take (i := 12) (oi := { dst := some 45, op := Op.extract (Operand.tmp 33) 0, type := 23, pos := "deep.go:16", after := #[{ on := 11, ground := Ground.data }], guard := none }) (v := .pointer (some ⟨B, 0, none⟩)) rfl (by kernel_rfl) (by kernel_rfl) (by kernel_rfl) (fun _ _ _ h => h) (Or.inl ⟨by rfl, fun w h => by go_simp⟩) hS ?_
          simp only [Act.put, List.setIfInBounds_toArray, List.set_cons_zero, List.set_cons_succ]
          refine wpAnyH_take (i := 13) (oi := { dst := some 46, op := Op.extract (Operand.tmp 33) 1, type := 24, pos := "deep.go:16", after := #[{ on := 11, ground := Ground.data }, { on := 14, ground := Ground.gcOnly Departure.lateStores }], guard := none }) (v := .int .i64 0) rfl (by kernel_rfl) (by kernel_rfl) (by kernel_rfl) (fun _ _ _ h => h) (Or.inl ⟨by rfl, fun w h => by go_simp⟩) hS ?_
          simp only [Act.put, List.setIfInBounds_toArray, List.set_cons_zero, List.set_cons_succ]
          refine wpAnyH_take (i := 14) (oi := { dst := some 15, op := Op.assign (Operand.tmp 45), type := 23, pos := "deep.go:16", after := #[{ on := 12, ground := Ground.data }, { on := 10, ground := Ground.chain }, { on := 0, ground := Ground.phase }, { on := 1, ground := Ground.phase }, { on := 2, ground := Ground.phase }, { on := 3, ground := Ground.phase }, { on := 4, ground := Ground.phase }, { on := 5, ground := Ground.phase }, { on := 6, ground := Ground.phase }, { on := 7, ground := Ground.phase }, { on := 8, ground := Ground.phase }, { on := 9, ground := Ground.phase }, { on := 10, ground := Ground.phase }, { on := 11, ground := Ground.phase }, { on := 12, ground := Ground.phase }, { on := 13, ground := Ground.textOnly Departure.lateStores }], guard := none }) (v := .pointer (some ⟨B, 0, none⟩)) rfl (by kernel_rfl) (by kernel_rfl) (by kernel_rfl) (fun _ _ _ h => h) (Or.inl ⟨by rfl, fun w h => by go_simp⟩) hS ?_
          simp only [Act.put, List.setIfInBounds_toArray, List.set_cons_zero, List.set_cons_succ]
          refine wpAnyH_take (i := 15) (oi := { dst := some 16, op := Op.assign (Operand.tmp 46), type := 24, pos := "deep.go:16", after := #[{ on := 13, ground := Ground.data }, { on := 14, ground := Ground.chain }, { on := 0, ground := Ground.phase }, { on := 1, ground := Ground.phase }, { on := 2, ground := Ground.phase }, { on := 3, ground := Ground.phase }, { on := 4, ground := Ground.phase }, { on := 5, ground := Ground.phase }, { on := 6, ground := Ground.phase }, { on := 7, ground := Ground.phase }, { on := 8, ground := Ground.phase }, { on := 9, ground := Ground.phase }, { on := 10, ground := Ground.phase }, { on := 11, ground := Ground.phase }, { on := 12, ground := Ground.phase }, { on := 13, ground := Ground.phase }, { on := 14, ground := Ground.phase }], guard := none }) (v := .int .i64 0) rfl (by kernel_rfl) (by kernel_rfl) (by kernel_rfl) (fun _ _ _ h => h) (Or.inl ⟨by rfl, fun w h => by go_simp⟩) hS ?_
          simp only [Act.put, List.setIfInBounds_toArray, List.set_cons_zero, List.set_cons_succ]
          refine wpAnyH_done (by kernel_rfl) ?_ _
          go_wp2_with fail
          go_meet
          exact ⟨B, rfl, rfl, Nat.le_trans (bel2 (bel2 (bel2 (bel2 B0.out (Below.refl w0.heap.size w0).drew) K1) K2) K3).size hB, hr, bel2 (bel2 (bel2 (bel2 (bel2 B0.out (Below.refl w0.heap.size w0).drew) K1) K2) K3) hb⟩
        exact AllReadyH.nil
      exact AllReadyH.nil
    exact AllReadyH.nil
  case rest =>
    obtain ⟨B, rfl, rfl, hB, hr1, hb1⟩ := hcut
    have B1 := Lib.hid hb1
    have R1 := Lib.hid (hr1.below ((Below.refl wc.heap.size wc).alloc (Nat.le_refl _) (.cells (Lib.byteCells (zeros d)).toArray 5)))
    have HB := Lib.hid hB
    have MK := fun W => make_bytes d (by omega) W
    have CV := fun W => text_at (holds_made W d)
    have EQ := eqC_yes 0 0 [] []
    have E1 := EQ.1
    have E2 := EQ.2.2
    have E3 := guardC
    clear hr1 hb1 hB NEW EQ la lb lc ld ha hb hc hd
    have ways : ((d : Int) < 1 ∨ (1 : Int) ≤ (d : Int) ∧ (255 : Int) < (d : Int)) ∧ m = (0, 0, [], []) ∧ e1 = 1600 ∨ ((1 : Int) ≤ (d : Int) ∧ (d : Int) ≤ 255) ∧ e1 = 0 := by
      rcases hw with ⟨h, k⟩ | ⟨h, k⟩ | h
      · exact .inl ⟨.inl h, k⟩
      · exact .inl ⟨.inr h, k⟩
      · exact .inr h
    clear hw
    rcases ways with ⟨hd1 | ⟨hd0, hd1⟩, rfl, rfl⟩ | ⟨⟨hd1, hd2⟩, rfl⟩
    · have qt : decide (t0 ≤ 10) = true := decide_eq_true (by omega)
      go_wp2_with (go_at_call 10; refine (num_any _ _).mono ?_; rintro e w9 ⟨rfl, rfl⟩)
      refine (ST.out _ _ R1.out).mono ?_
      rintro e w2 ⟨rfl, hr2, hc2⟩
      obtain ⟨w3, hw3⟩ : ∃ w3, w3 = w2.alloc (.cells #[.int .i64 0, .int .i64 0, .string { data := #[] }, .string { data := #[] }] 33) := ⟨_, rfl⟩
      have b3 : Below w2.heap.size w2 w3 := hw3 ▸ (Below.refl w2.heap.size w2).alloc (Nat.le_refl _) _
      have Y3 : Arr w2.heap.size w3 (mcs (0, 0, [], [])) := hw3 ▸ Arr.new w2 (mcs (0, 0, [], [])) _
      have R3 := Lib.hid (hr2.below b3)
      have B3 := Lib.hid (bel2 (chg_bel (bel2 B1.out ((Below.refl wc.heap.size wc).alloc (Nat.le_refl _) (.cells (Lib.byteCells (zeros d)).toArray 5))) HB.out hc2) b3)
      have TK2 := Lib.hid (TK.out _ _ R3.out (Lib.hid (T.out.below B3.out)))
      have hne : ¬ One B w2.heap.size := fun e => by have e : w2.heap.size = B := e; have := hr2.lt; omega
      have HY := Lib.hid (fun w6 (k : Chg (One B) w3 w6) => Arr.chg Y3 k hne)
      clear hr2 hc2 b3 Y3 hne
      go_upto_region 11 with (fail)
      rw [← hw3]
      clear hw3
      go_upto_region 13 with (go_at_call 17; refine TK2.out.mono ?_; rintro e w4 ⟨v4, rfl, ho4, hr4, hc4⟩; have B4 := Lib.hid (chg_bel B3.out HB.out hc4); have y4 := HY.out _ hc4; have k0 := y4.cell 0 _ rfl; have k1 := y4.cell 1 _ rfl; have k2 := y4.cell 2 _ rfl; have k3 := y4.cell 3 _ rfl; have zy := y4.lt; clear ho4 hr4 hc4 y4)
      go_wp2_with (go_at_call 10; refine (num_any _ _).mono ?_; rintro e w9 ⟨rfl, rfl⟩)
      go_ret
      exact ⟨rfl, B4.out⟩
    · have qt : decide (t0 ≤ 10) = true := decide_eq_true (by omega)
      have qd : decide ((d : Int) ≤ 255) = false := decide_eq_false (by omega)
      go_wp2_with (go_at_call 10; refine (num_any _ _).mono ?_; rintro e w9 ⟨rfl, rfl⟩)
      refine (ST.out _ _ R1.out).mono ?_
      rintro e w2 ⟨rfl, hr2, hc2⟩
      obtain ⟨w3, hw3⟩ : ∃ w3, w3 = w2.alloc (.cells #[.int .i64 0, .int .i64 0, .string { data := #[] }, .string { data := #[] }] 33) := ⟨_, rfl⟩
      have b3 : Below w2.heap.size w2 w3 := hw3 ▸ (Below.refl w2.heap.size w2).alloc (Nat.le_refl _) _
      have Y3 : Arr w2.heap.size w3 (mcs (0, 0, [], [])) := hw3 ▸ Arr.new w2 (mcs (0, 0, [], [])) _
      have R3 := Lib.hid (hr2.below b3)
      have B3 := Lib.hid (bel2 (chg_bel (bel2 B1.out ((Below.refl wc.heap.size wc).alloc (Nat.le_refl _) (.cells (Lib.byteCells (zeros d)).toArray 5))) HB.out hc2) b3)
      have TK2 := Lib.hid (TK.out _ _ R3.out (Lib.hid (T.out.below B3.out)))
      have hne : ¬ One B w2.heap.size := fun e => by have e : w2.heap.size = B := e; have := hr2.lt; omega
      have HY := Lib.hid (fun w6 (k : Chg (One B) w3 w6) => Arr.chg Y3 k hne)
      clear hr2 hc2 b3 Y3 hne
      go_upto_region 11 with (fail)
      rw [← hw3]
      clear hw3
      go_upto_region 13 with (go_at_call 17; refine TK2.out.mono ?_; rintro e w4 ⟨v4, rfl, ho4, hr4, hc4⟩; have B4 := Lib.hid (chg_bel B3.out HB.out hc4); have y4 := HY.out _ hc4; have k0 := y4.cell 0 _ rfl; have k1 := y4.cell 1 _ rfl; have k2 := y4.cell 2 _ rfl; have k3 := y4.cell 3 _ rfl; have zy := y4.lt; clear ho4 hr4 hc4 y4)
      go_wp2_with (go_at_call 10; refine (num_any _ _).mono ?_; rintro e w9 ⟨rfl, rfl⟩)
      go_ret
      exact ⟨rfl, B4.out⟩
    · have qt : decide (t0 ≤ 10) = true := decide_eq_true (by omega)
      have qd : decide ((d : Int) ≤ 255) = true := decide_eq_true (by omega)
      go_wp2_with (go_at_call 10; refine (num_any _ _).mono ?_; rintro e w9 ⟨rfl, rfl⟩)
      refine (ST.out _ _ R1.out).mono ?_
      rintro e w2 ⟨rfl, hr2, hc2⟩
      obtain ⟨w3, hw3⟩ : ∃ w3, w3 = w2.alloc (.cells #[.int .i64 m.1, .int .i64 m.2.1, .string ⟨m.2.2.1.toArray⟩, .string ⟨m.2.2.2.toArray⟩] 33) := ⟨_, rfl⟩
      have b3 : Below w2.heap.size w2 w3 := hw3 ▸ (Below.refl w2.heap.size w2).alloc (Nat.le_refl _) _
      have Y3 : Arr w2.heap.size w3 (mcs m) := hw3 ▸ Arr.new w2 (mcs m) _
      have R3 := Lib.hid (hr2.below b3)
      have B3 := Lib.hid (bel2 (chg_bel (bel2 B1.out ((Below.refl wc.heap.size wc).alloc (Nat.le_refl _) (.cells (Lib.byteCells (zeros d)).toArray 5))) HB.out hc2) b3)
      have TK2 := Lib.hid (TK.out _ _ R3.out (Lib.hid (T.out.below B3.out)))
      have hne : ¬ One B w2.heap.size := fun e => by have e : w2.heap.size = B := e; have := hr2.lt; omega
      have HY := Lib.hid (fun w6 (k : Chg (One B) w3 w6) => Arr.chg Y3 k hne)
      clear hr2 hc2 b3 Y3 hne
      go_upto_region 11 with (fail)
      rw [← hw3]
      clear hw3
      go_upto_region 13 with (go_at_call 17; refine TK2.out.mono ?_; rintro e w4 ⟨v4, rfl, ho4, hr4, hc4⟩; have B4 := Lib.hid (chg_bel B3.out HB.out hc4); have y4 := HY.out _ hc4; have k0 := y4.cell 0 _ rfl; have k1 := y4.cell 1 _ rfl; have k2 := y4.cell 2 _ rfl; have k3 := y4.cell 3 _ rfl; have zy := y4.lt; clear ho4 hr4 hc4 y4)
      go_wp2_with (go_at_call 10; refine (num_any _ _).mono ?_; rintro e w9 ⟨rfl, rfl⟩)
      go_ret
      exact ⟨rfl, B4.out⟩
theorem walk_forms (na se ex t0 ch : Int) (w : World) (_ : (Lit.int .i64 na).wf = true) (_ : (Lit.int .i64 se).wf = true) (_ : (Lit.int .i64 ex).wf = true) (_ : (Lit.int .i64 t0).wf = true) (_ : (Lit.int .i64 ch).wf = true) (T : Dg.Tab w) :
    Calls Tryd.prog 7 #[.int .i64 na, .int .i64 se, .int .i64 ex, .int .i64 t0, .int .i64 ch] w fun e w' => e = .returned (.bool true) ∧ Below w.heap.size w w' := by
  obtain ⟨a, ha, la⟩ := low_63 na
  obtain ⟨b, hb, lb⟩ := (low_nat se 7 (by omega) : ∃ x : Nat, bits .and .i64 se 127 = (x : Int) ∧ x < 128)
  obtain ⟨c, hc, lc⟩ := (low_nat ex 7 (by omega) : ∃ x : Nat, bits .and .i64 ex 127 = (x : Int) ∧ x < 128)
  obtain ⟨d, hd, ld⟩ := low_511 ch
  have za := zeros_len a
  have zb := zeros_len b
  have zc := zeros_len c
  have zd := zeros_len d
  cases hf : Prf.fine (zeros a) (zeros b) (zeros c) t0
  · refine forms_bad na se ex t0 ch a b c d ha hb hc hd la lb lc ld w (Lib.hid T) ?_ (Lib.hid fun W => new_bad (zeros a) (zeros b) (zeros c) t0 W hf (by omega) (by omega) (by omega))
    unfold Prf.fine Prf.fits at hf
    simp only [Bool.and_eq_false_iff, decide_eq_false_iff_not, za, zb, zc] at hf
    omega
  · obtain ⟨h1, h2, h3, h4, h5⟩ := Prf.fine_parts hf
    have g2 := Prf.fits_len h2
    have g3 := Prf.fits_len h3
    have f0 : (Prf.born (zeros a) (zeros b) (zeros c) t0).Fit := Prf.born_fit hf
    rw [za] at h1
    rw [zb] at g2
    rw [zc] at g3
    have hn : (Prf.born (zeros a) (zeros b) (zeros c) t0).name.length ≤ 1000 := Nat.le_trans f0.name (by decide)
    have tk : ∀ q : Pf, Prf.take q (9, 0, [], []) = (q, [], 1600) := fun q => by
      unfold Prf.take
      rw [if_pos (by decide)]
    by_cases hm : 1 ≤ d ∧ d ≤ 255
    · have mc : Prf.mayCh (zeros d) = true := by unfold Prf.mayCh; simp; omega
      have st : Prf.start (Prf.born (zeros a) (zeros b) (zeros c) t0) (zeros d) = ({ Prf.born (zeros a) (zeros b) (zeros c) t0 with challenge := zeros d }, (1, 1, zeros d, zeros a), 0) := by
        unfold Prf.start
        rw [if_neg (by rw [mc]; decide), if_neg (by simp [Prf.born])]
        rfl
      have f1 := Prf.start_fit f0 (zeros d)
      rw [st] at f1
      refine forms_good na se ex t0 ch a b c d ha hb hc hd la lb lc ld w (Lib.hid T) (Prf.born (zeros a) (zeros b) (zeros c) t0) { Prf.born (zeros a) (zeros b) (zeros c) t0 with challenge := zeros d } (1, 1, zeros d, zeros a) 0 (by omega) (by omega) (by omega) (by omega) (by omega) h4 h5 (.inr (.inr ⟨by omega, rfl⟩)) (Lib.hid fun W => new_good _ _ _ _ W hf) (Lib.hid fun B W h => ?_) (Lib.hid fun B W h hT => ?_)
      · have k := Start_any B _ (zeros d) W h hn (by omega)
        rw [st] at k
        exact k
      · have k := Take_any B _ 0 [] [] W h 9 f1 hT (by decide)
        rwa [tk] at k
    · have mc : Prf.mayCh (zeros d) = false := by unfold Prf.mayCh; simp; omega
      have st : Prf.start (Prf.born (zeros a) (zeros b) (zeros c) t0) (zeros d) = (Prf.born (zeros a) (zeros b) (zeros c) t0, (0, 0, [], []), 1600) := by
        unfold Prf.start
        rw [if_pos mc]
        rfl
      refine forms_good na se ex t0 ch a b c d ha hb hc hd la lb lc ld w (Lib.hid T) (Prf.born (zeros a) (zeros b) (zeros c) t0) (Prf.born (zeros a) (zeros b) (zeros c) t0) (0, 0, [], []) 1600 (by omega) (by omega) (by omega) (by omega) (by omega) h4 h5 ?_ (Lib.hid fun W => new_good _ _ _ _ W hf) (Lib.hid fun B W h => ?_) (Lib.hid fun B W h hT => ?_)
      · by_cases hd1 : d < 1
        · exact .inl ⟨by omega, rfl, rfl⟩
        · exact .inr (.inl ⟨by omega, rfl, rfl⟩)
      · have k := Start_any B _ (zeros d) W h hn (by omega)
        rw [st] at k
        exact k
      · have k := Take_any B _ 0 [] [] W h 9 f0 hT (by decide)
        rwa [tk] at k
end Go.Proofs.YtaagfmnpeimakaaDoor.Cp
