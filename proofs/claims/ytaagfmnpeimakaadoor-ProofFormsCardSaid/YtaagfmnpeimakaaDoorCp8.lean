/-
  Stage 16: the laws' own helpers: short, SameChaps at the same messages.
-/
import Derived.Test.YtaagfmnpeimakaaDoorCp7
import Derived.Test.YtaagfmnpeimakaaDoorCp3
import Derived.Test.YtaagfmnpeimakaaDoorEqC
import Derived.Test.YtaagfmnpeimakaaDoorNum
namespace Go.Proofs.YtaagfmnpeimakaaDoor.Prf
theorem sum_length (i : Int) (s c : List UInt8) : (sum i s c).length = 16 := by simp [sum, Dig.md5, Dig.out, Dig.four]
/-- At most forty bytes. -/
def short (l : List UInt8) : List UInt8 := l.take 40
theorem short_length (l : List UInt8) : (short l).length ≤ 40 := by unfold short; rw [List.length_take]; omega
theorem code_text (c i : Int) (v n : List UInt8) (hc : c = 1 ∨ c = 2) (hi : 0 ≤ i ∧ i ≤ 255) (hv : 1 ≤ v.length ∧ v.length ≤ 255) (hn : n.length ≤ 253) : Chp.code (c, i, v, n) = 0 := by
  have k1 : Chp.kind c = true := by rcases hc with rfl | rfl <;> rfl
  have k2 : Chp.byte i = true := by unfold Chp.byte; simp [hi]
  have k3 : Chp.holds c v = true := by
    unfold Chp.holds
    rw [if_pos (by rcases hc with rfl | rfl <;> rfl)]
    simp [hv]
  show (if _ then _ else _) = (0 : Int)
  rw [if_pos ⟨k1, k2, k3⟩, if_pos hn]
theorem take_challenge (p : Pf) (i : Int) (v n : List UInt8) (hp : p.failed = false) (hi : 0 ≤ i ∧ i ≤ 255) (hv : 1 ≤ v.length ∧ v.length ≤ 255) (hn : n.length ≤ 253) :
    take p (1, i, v, n) = (p, [(2, i, sum i p.secret v, p.name)], 0) := by
  unfold take
  rw [if_neg (by simpa using code_text 1 i v n (.inl rfl) hi hv hn), if_neg (by rw [hp]; decide)]
  rfl
theorem take_right (p : Pf) (v n : List UInt8) (hp : p.failed = false) (hc : p.challenge ≠ []) (hq : p.proved = true ∨ v = sum 1 p.expect p.challenge) (hv : 1 ≤ v.length ∧ v.length ≤ 255) (hn : n.length ≤ 253) :
    take p (2, 1, v, n) = ({ p with proved := true }, [(3, 1, [], ok)], 0) := by
  have e : receive p (2, 1, v, n) = judge p 1 v := rfl
  unfold take
  rw [if_neg (by simpa using code_text 2 1 v n (.inr rfl) (by decide) hv hn), if_neg (by rw [hp]; decide), e]
  unfold judge
  rw [if_neg (by simpa using hc), if_pos hq]
theorem take_wrong (p : Pf) (v n : List UInt8) (hp : p.failed = false) (hc : p.challenge ≠ []) (h1 : p.proved = false) (hq : v ≠ sum 1 p.expect p.challenge) (hv : 1 ≤ v.length ∧ v.length ≤ 255) (hn : n.length ≤ 253) :
    take p (2, 1, v, n) = ({ p with failed := true }, [(4, 1, [], no)], 0) := by
  have e : receive p (2, 1, v, n) = judge p 1 v := rfl
  unfold take
  rw [if_neg (by simpa using code_text 2 1 v n (.inr rfl) (by decide) hv hn), if_neg (by rw [hp]; decide), e]
  unfold judge
  rw [if_neg (by simpa using hc), if_neg (by rw [h1]; simpa using hq)]
theorem take_behind (p : Pf) (v n : List UInt8) (hp : p.failed = true) (hv : 1 ≤ v.length ∧ v.length ≤ 255) (hn : n.length ≤ 253) : take p (2, 1, v, n) = (p, [], 0) := by
  unfold take
  rw [if_neg (by simpa using code_text 2 1 v n (.inr rfl) (by decide) hv hn), if_pos hp]
end Go.Proofs.YtaagfmnpeimakaaDoor.Prf
namespace Go.Proofs.YtaagfmnpeimakaaDoor.Cp
open Go.RowKit
set_option maxRecDepth 100000
theorem short_any (l : List UInt8) (w : World) (hl : l.length ≤ 9223372036854775807) : Calls Tryd.prog 23 #[.string ⟨l.toArray⟩] w fun e w' => e = .returned (.string ⟨(Prf.short l).toArray⟩) ∧ w = w' := by
  have hz := sz l
  have hc : (ByteArray.mk l.toArray).extract 0 40 = ⟨(l.take 40).toArray⟩ := by rw [cut_list]; rfl
  by_cases h : 40 < l.length
  · unfold Prf.short
    generalize l.take 40 = r at *
    generalize ByteArray.mk l.toArray = D at *
    have h1 : (40 : Int) < (D.size : Int) := by omega
    go_enter Tryd.func23, Tryd.ntmps23
    go_wp2_with fail
    go_ret
    exact ⟨rfl, rfl⟩
  · have e : Prf.short l = l := List.take_of_length_le (by omega)
    rw [e]
    clear hc
    generalize ByteArray.mk l.toArray = D at *
    have h1 : (D.size : Int) ≤ 40 := by omega
    go_enter Tryd.func23, Tryd.ntmps23
    go_wp2_with fail
    go_ret
    exact ⟨rfl, rfl⟩
theorem index_one (g : Nat) (W : World) : (Instr.indexAt 43 (.slice (some ⟨g, 0, none⟩) 1 1) (.int .i64 0)).run Tryd.prog W = .ok (.pointer (some ⟨g, 0, none⟩)) W := by
  have hs : (sizeOf (Tryd.prog.elem 43)).run Tryd.prog W = .ok 4 W := Tryd.sizeOf33 W
  have e := run_indexAt_slice (P := Tryd.prog) W 43 ⟨g, 0, none⟩ 1 1 .i64 0 Tryd.underlying43
  rw [if_pos (by omega), hs] at e
  simp only [Result.andThen] at e
  rw [e]
  rfl
set_option maxHeartbeats 1600000 in
theorem same_one (g1 g2 : Nat) (m : Prf.Msg) (w : World) (h1 : Arr g1 w (mcs m)) (h2 : Arr g2 w (mcs m)) :
    Calls Tryd.prog 19 #[.slice (some ⟨g1, 0, none⟩) 1 1, .slice (some ⟨g2, 0, none⟩) 1 1] w fun e w' => e = .returned (.bool true) ∧ Below w.heap.size w w' := by
  have EQ := eqC_yes m.1 m.2.1 m.2.2.1 m.2.2.2
  have E1 := EQ.1
  have E2 := EQ.2.1
  have E3 := guardC
  have i1 := index_one g1
  have i2 := index_one g2
  have a0 := h1.cell 0 _ rfl
  have a1 := h1.cell 1 _ rfl
  have a2 := h1.cell 2 _ rfl
  have a3 := h1.cell 3 _ rfl
  have b0 := h2.cell 0 _ rfl
  have b1 := h2.cell 1 _ rfl
  have b2 := h2.cell 2 _ rfl
  have b3 := h2.cell 3 _ rfl
  have z1 := h1.lt
  have z2 := h2.lt
  clear EQ h1 h2
  go_enter Tryd.func19, Tryd.ntmps19
  go_wp2_with fail
  go_loopw [5] (fun i wr => (i = .int .i64 0 ∧ wr = w) ∨ (i = .int .i64 1 ∧ Below w.heap.size w wr)) (fun i _ => 1 - (intOf i).toNat)
  case atStart => exact .inl ⟨rfl, rfl⟩
  case round =>
    rcases hrel with ⟨rfl, rfl⟩ | ⟨rfl, hb⟩
    · go_wp2_with fail
      go_quiet (fail)
      go_wp2_with fail
      go_roundw
      case rel => exact .inr ⟨by go_num, below_drewN (Below.refl _ _) nq⟩
      case measure => simp [intOf]
    · have HB := Lib.hid hb
      clear hb
      go_wp2_with fail
      go_ret
      exact ⟨rfl, HB.out⟩
theorem same_none (w : World) :
    Calls Tryd.prog 19 #[.slice none 0 0, .slice none 0 0] w fun e w' => e = .returned (.bool true) ∧ Below w.heap.size w w' := by
  go_enter Tryd.func19, Tryd.ntmps19
  go_wp2_with fail
  go_loopw [5] (fun i wr => i = .int .i64 0 ∧ wr = w) (fun _ _ => 0)
  case atStart => exact ⟨rfl, rfl⟩
  case round =>
    obtain ⟨rfl, rfl⟩ := hrel
    go_wp2_with fail
    go_ret
    exact ⟨rfl, Below.refl _ _⟩
/-- The contract of SameChaps at slices that hold the same messages. -/
theorem same_any {k1 k2 : Nat} {va vb : Value} {ms : List Prf.Msg} {w : World} (h1 : Out k1 w va ms) (h2 : Out k2 w vb ms) :
    Calls Tryd.prog 19 #[va, vb] w fun e w' => e = .returned (.bool true) ∧ Below w.heap.size w w' := by
  rcases h1 with ⟨rfl, rfl⟩ | ⟨g1, m, rfl, rfl, _, a1⟩
  · rcases h2 with ⟨_, rfl⟩ | ⟨_, _, e, _⟩
    · exact same_none w
    · cases e
  · rcases h2 with ⟨e, _⟩ | ⟨g2, m2, e, rfl, _, a2⟩
    · cases e
    · obtain rfl : m = m2 := by simpa using e
      exact same_one g1 g2 m w a1 a2
end Go.Proofs.YtaagfmnpeimakaaDoor.Cp
