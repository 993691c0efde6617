/-
  Plain: one bit of a stuffed frame turned, where no mark comes or goes by it.
-/
import Derived.Test.YtnkkompmdngkgaaRMath2
import Derived.Test.YtnkkompmdngkgaaMath2
namespace Go.Proofs.Ytnkkompmdngkgaa.Frm
theorem mns_zero (b : UInt8) : Stf.mns 0 b = (b == 126 || b == 125) := by
  unfold Stf.mns Stf.mb
  simp
theorem one_plain (b : UInt8) (h1 : b ≠ 125) (h2 : b ≠ 126) : Stf.one 0 b = [b] := by
  unfold Stf.one
  rw [mns_zero, if_neg (by simp [h1, h2])]
theorem one_marked (b : UInt8) (h : b = 125 ∨ b = 126) : Stf.one 0 b = [125, b ^^^ 32] := by
  unfold Stf.one
  rw [mns_zero, if_pos (by rcases h with h | h <;> simp [h])]
theorem put_cons (b : UInt8) (t : List UInt8) : Stf.put 0 (b :: t) = Stf.one 0 b ++ Stf.put 0 t := by
  simp [Stf.put]
/-- A byte of a stuffed text that is no mark, and stands behind none, is a byte of the text itself. -/
theorem stands_alone (t : List UInt8) : ∀ (j : Nat) (c : UInt8), (Stf.put 0 t)[j]? = some c → c ≠ 125 → (∀ i, j = i + 1 → (Stf.put 0 t)[i]? ≠ some 125) → ∃ t1 t2, t = t1 ++ c :: t2 ∧ (Stf.put 0 t1).length = j := by
  induction t with
  | nil => intro j c h; simp [Stf.put] at h
  | cons b t ih =>
    intro j c h hc hp
    rw [put_cons] at h hp
    by_cases hb : b = 125 ∨ b = 126
    · rw [one_marked b hb] at h hp
      match j, h, hp with
      | 0, h, _ => simp at h; exact absurd h.symm hc
      | 1, _, hp => exact absurd (by simp) (hp 0 rfl)
      | j + 2, h, hp =>
        obtain ⟨t1, t2, e1, e2⟩ := ih j c (by simpa using h) hc (fun i hi => by
          have := hp (i + 2) (by omega)
          simpa using this)
        exact ⟨b :: t1, t2, by rw [e1]; rfl, by rw [put_cons, one_marked b hb]; simp [e2]⟩
    · have hb1 : b ≠ 125 := fun e => hb (.inl e)
      have hb2 : b ≠ 126 := fun e => hb (.inr e)
      rw [one_plain b hb1 hb2] at h hp
      match j, h, hp with
      | 0, h, _ =>
        simp at h
        subst h
        exact ⟨[], t, rfl, rfl⟩
      | j + 1, h, hp =>
        obtain ⟨t1, t2, e1, e2⟩ := ih j c (by simpa using h) hc (fun i hi => by
          have := hp (i + 1) (by omega)
          simpa using this)
        exact ⟨b :: t1, t2, by rw [e1]; rfl, by rw [put_cons, one_plain b hb1 hb2]; simp [e2]⟩
theorem flip_middle (a b : List UInt8) (c : UInt8) (k : Nat) (h : k / 8 = a.length) : Crc.flip (a ++ c :: b) k = a ++ (c ^^^ UInt8.ofNat (2 ^ (k % 8))) :: b := by
  unfold Crc.flip
  have e : (a ++ c :: b).getD (k / 8) 0 = c := by simp [List.getD, h]
  rw [e, h]
  simp
theorem pow_ne (k : Nat) : UInt8.ofNat (2 ^ (k % 8)) ≠ 0 := by
  have h : ∀ n : Fin 8, UInt8.ofNat (2 ^ n.val) ≠ 0 := by decide
  exact h ⟨k % 8, by omega⟩
/-- One bit turned, with no mark by it: the sum is wrong. -/
theorem get_turned (u : List UInt8) (k : Nat) (hu : 4 ≤ u.length) (hu2 : u.length ≤ 1500) (hk : k < 8 * (Stf.put 0 (Crc.put u)).length)
    (h1 : (Stf.put 0 (Crc.put u)).getD (k / 8) 0 ≠ 125) (h2 : (Stf.put 0 (Crc.put u)).getD (k / 8) 0 ≠ 126)
    (h3 : (Stf.put 0 (Crc.put u)).getD (k / 8) 0 ^^^ UInt8.ofNat (2 ^ (k % 8)) ≠ 125) (h4 : (Stf.put 0 (Crc.put u)).getD (k / 8) 0 ^^^ UInt8.ofNat (2 ^ (k % 8)) ≠ 126)
    (h5 : 0 < k / 8 → (Stf.put 0 (Crc.put u)).getD (k / 8 - 1) 0 ≠ 125) : get (Crc.flip (Stf.put 0 (Crc.put u)) k) = ((0, []), 301) := by
  have hr := Crc.reg_put u
  have hl := Crc.put_length u
  generalize Crc.put u = t at *
  have hj : k / 8 < (Stf.put 0 t).length := by omega
  have hc : (Stf.put 0 t)[k / 8]? = some ((Stf.put 0 t).getD (k / 8) 0) := by simp [List.getD, hj]
  generalize (Stf.put 0 t).getD (k / 8) 0 = c at *
  obtain ⟨t1, t2, rfl, e2⟩ := stands_alone t (k / 8) c hc h1 (fun i hi => by
    have := h5 (by omega)
    rw [hi, Nat.add_sub_cancel] at this
    intro e
    rw [List.getD, e] at this
    exact this rfl)
  have ey : Stf.put 0 (t1 ++ c :: t2) = Stf.put 0 t1 ++ c :: Stf.put 0 t2 := by rw [Stf.put_append, put_cons, one_plain c h1 h2]; rfl
  have ez : Crc.flip (Stf.put 0 (t1 ++ c :: t2)) k = Stf.put 0 (Crc.flip (t1 ++ c :: t2) (8 * t1.length + k % 8)) := by
    have e3 : (8 * t1.length + k % 8) / 8 = t1.length := by omega
    have e4 : (8 * t1.length + k % 8) % 8 = k % 8 := by omega
    rw [ey, flip_middle _ _ _ _ e2.symm, flip_middle _ _ _ _ e3, e4, Stf.put_append, put_cons, one_plain _ h3 h4]
    rfl
  rw [ez]
  have hlen : (Crc.flip (t1 ++ c :: t2) (8 * t1.length + k % 8)).length = u.length + 2 := by rw [Crc.flip_length]; exact hl
  have hbad : Crc.check (Crc.flip (t1 ++ c :: t2) (8 * t1.length + k % 8)) = ([], 101) := by
    refine Crc.turned (t1 ++ c :: t2) [8 * t1.length + k % 8] hr (by omega) (by omega) (by simp) (by simp; omega) ?_
    show Crc.flip (t1 ++ c :: t2) (8 * t1.length + k % 8) ≠ t1 ++ c :: t2
    have e3 : (8 * t1.length + k % 8) / 8 = t1.length := by omega
    have e4 : (8 * t1.length + k % 8) % 8 = k % 8 := by omega
    rw [flip_middle _ _ _ _ e3, e4]
    intro e
    have e5 := (List.cons.inj (List.append_cancel_left e)).1
    have : UInt8.ofNat (2 ^ (k % 8)) = 0 := by
      have e6 : c ^^^ (c ^^^ UInt8.ofNat (2 ^ (k % 8))) = c ^^^ c := by rw [e5]
      rwa [← UInt8.xor_assoc, UInt8.xor_self, UInt8.zero_xor] at e6
    exact pow_ne k this
  unfold get
  rw [Stf.get_put, if_neg (by simp; omega)]
  unfold unsum
  rw [hbad, if_neg (by decide)]
end Go.Proofs.Ytnkkompmdngkgaa.Frm
