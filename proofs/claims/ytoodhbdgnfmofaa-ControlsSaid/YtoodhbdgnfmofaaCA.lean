/-
  What the walks of stage 5 share: which packets are good, what comes back.
-/
import Derived.Test.YtoodhbdgnfmofaaC9
namespace Go.Proofs.Ytoodhbdgnfmofaa.C
open Go.RowKit
theorem opt_one (z : Int) (d : List UInt8) (h0 : 0 ≤ z ∧ z ≤ 255) (h : d.length ≤ 253) : Opt.code [(z, d)] = 0 ∧ (Opt.wires [(z, d)]).length = d.length + 2 := by
  have hw : (Opt.wires [(z, d)]).length = d.length + 2 := by simp [Opt.wires, Opt.one]
  refine ⟨?_, hw⟩
  unfold Opt.code Opt.fits
  rw [hw]
  simp only [List.all_cons, List.all_nil, Bool.and_true, Opt.kindOk, Opt.short]
  simp [h0.1, h0.2, h]
  omega
theorem byte_yes (z : Int) (h : 0 ≤ z) (h2 : z ≤ 255) : Ctl.byte z = true := by simp [Ctl.byte, h, h2]
theorem byte_no (z : Int) (h : z < 0 ∨ 255 < z) : Ctl.byte z = false := by
  unfold Ctl.byte
  rw [Bool.and_eq_false_iff, decide_eq_false_iff_not, decide_eq_false_iff_not]
  omega
theorem conf_yes (z : Int) (h : 1 ≤ z) (h2 : z ≤ 4) : Ctl.conf z = true := by simp [Ctl.conf, h, h2]
theorem conf_no (z : Int) (h : z < 1 ∨ 4 < z) : Ctl.conf z = false := by
  unfold Ctl.conf
  rw [Bool.and_eq_false_iff, decide_eq_false_iff_not, decide_eq_false_iff_not]
  omega
theorem code_conf (z y : Int) (os : List Opt.Op) (hz : Ctl.byte z = true) (hy : Ctl.byte y = true) (hc : Ctl.conf z = true) (ho : Opt.code os = 0) (hl : (Opt.wires os).length + 4 ≤ 2048) : Ctl.code (z, y, os, []) = 0 := by
  unfold Ctl.code
  rw [if_pos ⟨hz, hy⟩, if_pos ⟨ho, by simp [Ctl.own, hc]⟩, if_pos (by simp [Ctl.body, hc]; omega)]
theorem code_data (z y : Int) (d : List UInt8) (hz : Ctl.byte z = true) (hy : Ctl.byte y = true) (hc : Ctl.conf z = false) (hl : d.length + 4 ≤ 2048) : Ctl.code (z, y, [], d) = 0 := by
  unfold Ctl.code
  rw [if_pos ⟨hz, hy⟩, if_pos ⟨Ctl.code_nil, by simp [Ctl.own, hc]⟩, if_pos (by simp [Ctl.body, hc]; omega)]
theorem code_out (p : Ctl.Pk) (h : Ctl.byte p.1 = false ∨ Ctl.byte p.2.1 = false) : Ctl.code p = 501 ∧ Ctl.put p = [] := by
  have e : Ctl.code p = 501 := by
    unfold Ctl.code
    rw [if_neg (fun g => by rcases h with h | h <;> simp [h] at g)]
  exact ⟨e, Ctl.put_bad p (by omega)⟩
theorem put_out (c i : Int) (h : Ctl.byte c = false ∨ Ctl.byte i = false) (W : World) : Calls Try.prog 9 #[.agg #[.int .i64 c, .int .i64 i, .slice none 0 0, .string ⟨#[]⟩]] W fun e w' => e = .returned (.tuple #[.string ⟨#[]⟩, .int .i64 501]) ∧ Below W.heap.size W w' := by
  have h1 := cput_any c i _ [] [] W (reads_nil W) (by decide) (by decide)
  obtain ⟨e1, e2⟩ := code_out (c, i, [], []) h
  rwa [e1, e2] at h1
theorem get_back (p : Ctl.Pk) (h : Ctl.code p = 0) (W : World) : Calls Try.prog 11 #[.string ⟨(Ctl.put p).toArray⟩] W (PkPost (p, 0) W) := by
  have hl : (Ctl.put p).length ≤ 9223372036854775807 := by
    obtain ⟨c, i, os, d⟩ := p
    rw [Ctl.put_good _ h, Ctl.wire_length]
    rcases Ctl.code_ways c i os d with ⟨_, e⟩ | ⟨_, _, e⟩ | ⟨_, _, _, e⟩ | ⟨_, _, _, _, e⟩ | ⟨_, _, _, _, _, e⟩ | ⟨_, _, _, _, h5, _⟩ <;> omega
  have h1 := cget_any (Ctl.put p) W hl
  have h2 := Ctl.get_wire p [] h
  rw [List.append_nil, ← Ctl.put_good p h] at h2
  rwa [h2] at h1
theorem cut_hundred (s : ByteArray) (h : 100 < s.size) : ∃ dl : List UInt8, s.extract 0 100 = ⟨dl.toArray⟩ ∧ dl.length = 100 := by
  obtain ⟨l, rfl⟩ : ∃ l : List UInt8, s = ⟨l.toArray⟩ := ⟨s.data.toList, by simp⟩
  rw [sz] at h
  exact ⟨l.take 100, O.cut_list l 0 100, by rw [List.length_take]; omega⟩
end Go.Proofs.Ytoodhbdgnfmofaa.C
