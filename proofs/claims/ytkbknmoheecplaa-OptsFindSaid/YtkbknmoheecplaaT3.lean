/-
  The walk of the law of the first of a kind.
-/
import Derived.Test.YtkbknmoheecplaaO9
import Derived.Test.YtkbknmoheecplaaKeptO
namespace Go.Proofs.Ytkbknmoheecplaa.O
open Go.RowKit
theorem slice_take (b off n cap k : Nat) (hk : k ≤ cap) (hn : 0 < cap) (W : World) : (Instr.slice 22 (.slice (some ⟨b, off, none⟩) n cap) none (some (.int .i64 (k : Int))) none).run Try.prog W = .ok (.slice (some ⟨b, off, none⟩) k cap) W := by
  have hs : (sizeOf (Try.prog.elem 22)).run Try.prog W = .ok 2 W := Try.sizeOf34 W
  rw [run_slice_h (P := Try.prog) (w := W) 22 (some ⟨b, off, none⟩) n cap Try.underlying22 .i64 _ (by omega) (by omega), hs]
  have e : (k : Int).toNat = k := by omega
  simp only [Result.andThen, sliced, e]
  by_cases h : cap = 0
  · omega
  · simp [h, Addr.add]
theorem reads_take {W : World} {b off n cap k : Nat} {os : List Opt.Op} (h : ReadsO W (.slice (some ⟨b, off, none⟩) n cap) os) (hk : k < os.length) : ReadsO W (.slice (some ⟨b, off, none⟩) k cap) (os.take k) := by
  rcases h with ⟨rfl, _⟩ | ⟨b', off', cap', hv, hl, hc⟩
  · simp at hk
  · simp only [Value.slice.injEq, Option.some.injEq, Addr.mk.injEq] at hv
    obtain ⟨⟨rfl, rfl, _⟩, rfl, rfl⟩ := hv
    have hlen : (os.take k).length = k := by rw [List.length_take]; omega
    refine .inr ⟨b, off, cap, by rw [hlen], by rw [hlen]; omega, fun j u hj => hc j u ?_⟩
    have e : cellsO os = cellsO (os.take k) ++ cellsO (os.drop k) := by rw [← cellsO_append, List.take_append_drop]
    rw [e, List.getElem?_append_left (List.getElem?_eq_some_iff.1 hj).1]
    exact hj
set_option maxHeartbeats 800000 in
theorem find_none (p : Option Addr) (cap : Nat) (os : List Opt.Op) (n : Nat) (kind : Int) (w : World) (hn : n = os.length) (hr : Hid (ReadsO w (.slice p n cap) os)) (hl : os.length * 24 ≤ 140737488351232)
    (F1 : Hid (∀ W : World, Below w.heap.size w W → Calls Try.prog 14 #[.int .i64 kind, .slice p n cap] W fun e w' => e = .returned (.int .i64 (-1)) ∧ Below W.heap.size W w'))
    (F2 : Hid (∀ (W : World) (u : Value), ReadsO W u (os ++ [(kind, [])]) → Calls Try.prog 14 #[.int .i64 kind, u] W fun e w' => e = .returned (.int .i64 n) ∧ Below W.heap.size W w')) :
    Calls Try.prog 6 #[.slice p n cap, .int .i64 kind] w fun e w' => e = .returned (.bool true) ∧ Below w.heap.size w w' := by
  have hl2 : n * 24 ≤ 140737488351232 := by omega
  have HL := Lib.hid hl
  have HN := Lib.hid hn
  clear hl hn
  go_enter Try.func6, Try.ntmps6
  go_wp2_with fail
  refine (awake_any _).mono ?_
  rintro e w1 ⟨rfl, hb1⟩
  have B1 := Lib.hid hb1
  clear hb1
  go_wp2_with fail
  refine (F1.out _ B1.out).mono ?_
  rintro e w2 ⟨rfl, hb2⟩
  have B2 := Lib.hid (bel2 B1.out hb2)
  clear hb2
  have M0 := Lib.hid (OwnsO.made w2)
  have R2 := Lib.hid (hr.out.below (B2.out.alloc (B2.out.size) (.cells #[] 34)))
  go_wp2_with (at_builtin; refine wp_catO rfl _ _ rfl [] os M0.out R2.out rfl rfl (by have := HL.out; simp; omega) ?_)
  intro v3 w3 ho3
  have HO3 := Lib.hid ho3
  clear ho3
  have M3 := Lib.hid (HO3.out.below ((Below.refl w3.heap.size w3).alloc (Nat.le_refl _) (.cells #[.int .i64 kind, .string ⟨#[]⟩] 34)))
  have R3 := Lib.hid (reads_lit w3 [(kind, [])] #[.int .i64 kind, .string ⟨#[]⟩] rfl)
  go_wp2_with (at_builtin; refine wp_catO rfl _ _ rfl ([] ++ os) [(kind, [])] M3.out R3.out rfl rfl (by have := HL.out; simp; omega) ?_)
  intro v4 w4 ho4
  have HO4 := Lib.hid ho4
  clear ho4
  go_wp2_with fail
  refine (F2.out _ _ HO4.out.reads).mono ?_
  rintro e w5 ⟨rfl, hb5⟩
  have B5 := Lib.hid (bel2 (bel2 B2.out HO4.out.2) hb5)
  clear hb5
  go_wp2_with fail
  go_ret
  exact ⟨rfl, B5.out⟩
set_option maxHeartbeats 800000 in
theorem find_some (b off cap k : Nat) (os : List Opt.Op) (n : Nat) (kind : Int) (w : World) (hn : n = os.length) (hk : k < n) (hcap : n ≤ cap) (hcell : w.cell? ⟨b, off + 2 * k, none⟩ = some (.int .i64 kind)) (hr : Hid (ReadsO w (.slice (some ⟨b, off, none⟩) n cap) os)) (hl : os.length * 24 ≤ 140737488351232)
    (F1 : Hid (∀ W : World, Below w.heap.size w W → Calls Try.prog 14 #[.int .i64 kind, .slice (some ⟨b, off, none⟩) n cap] W fun e w' => e = .returned (.int .i64 k) ∧ Below W.heap.size W w'))
    (F2 : Hid (∀ (W : World) (u : Value), ReadsO W u (os ++ [(kind, [])]) → Calls Try.prog 14 #[.int .i64 kind, u] W fun e w' => e = .returned (.int .i64 k) ∧ Below W.heap.size W w'))
    (F3 : Hid (∀ W : World, Below w.heap.size w W → Calls Try.prog 14 #[.int .i64 kind, .slice (some ⟨b, off, none⟩) k cap] W fun e w' => e = .returned (.int .i64 (-1)) ∧ Below W.heap.size W w')) :
    Calls Try.prog 6 #[.slice (some ⟨b, off, none⟩) n cap, .int .i64 kind] w fun e w' => e = .returned (.bool true) ∧ Below w.heap.size w w' := by
  have hl2 : n * 24 ≤ 140737488351232 := by omega
  have HL := Lib.hid hl
  have HN := Lib.hid hn
  have HC := Lib.hid hcell
  have hi := fun W => opt_index b off n cap k hk W
  have hsl := fun W => slice_take b off n cap k (by omega) (by omega) W
  clear hcell
  obtain ⟨o8, ho8⟩ : ∃ o8, o8 = off + 2 * k := ⟨_, rfl⟩
  rw [← ho8] at hi HC
  clear ho8
  clear hl hn
  go_enter Try.func6, Try.ntmps6
  go_wp2_with fail
  refine (awake_any _).mono ?_
  rintro e w1 ⟨rfl, hb1⟩
  have B1 := Lib.hid hb1
  clear hb1
  go_wp2_with fail
  refine (F1.out _ B1.out).mono ?_
  rintro e w2 ⟨rfl, hb2⟩
  have B2 := Lib.hid (bel2 B1.out hb2)
  clear hb2
  have M0 := Lib.hid (OwnsO.made w2)
  have R2 := Lib.hid (hr.out.below (B2.out.alloc (B2.out.size) (.cells #[] 34)))
  go_wp2_with (at_builtin; refine wp_catO rfl _ _ rfl [] os M0.out R2.out rfl rfl (by have := HL.out; simp; omega) ?_)
  intro v3 w3 ho3
  have HO3 := Lib.hid ho3
  clear ho3
  have M3 := Lib.hid (HO3.out.below ((Below.refl w3.heap.size w3).alloc (Nat.le_refl _) (.cells #[.int .i64 kind, .string ⟨#[]⟩] 34)))
  have R3 := Lib.hid (reads_lit w3 [(kind, [])] #[.int .i64 kind, .string ⟨#[]⟩] rfl)
  go_wp2_with (at_builtin; refine wp_catO rfl _ _ rfl ([] ++ os) [(kind, [])] M3.out R3.out rfl rfl (by have := HL.out; simp; omega) ?_)
  intro v4 w4 ho4
  have HO4 := Lib.hid ho4
  clear ho4
  go_wp2_with fail
  refine (F2.out _ _ HO4.out.reads).mono ?_
  rintro e w5 ⟨rfl, hb5⟩
  have B5 := Lib.hid (bel2 (bel2 B2.out HO4.out.2) hb5)
  clear hb5
  have c0 := (B5.out.cell (block_lt_of_cell HC.out)).trans HC.out
  go_wp2_with (first | (go_at_call 12; refine (num_any _ _).mono ?_; rintro e w9 ⟨rfl, rfl⟩) | (refine (F3.out _ B5.out).mono ?_; rintro e w6 ⟨rfl, hb6⟩; have B6 := Lib.hid (bel2 B5.out hb6); clear hb6))
  go_ret
  exact ⟨rfl, B6.out⟩
theorem walk_find (v : Value) (os : List Opt.Op) (kind : Int) (w : World) (hr : ReadsO w v os) (hl : os.length * 24 ≤ 140737488351232) (_ : ∀ o ∈ os, o.2.length ≤ 140737488351232) (_ : (Lit.int .i64 kind).wf = true) :
    Calls Try.prog 6 #[v, .int .i64 kind] w fun e w' => e = .returned (.bool true) ∧ Below w.heap.size w w' := by
  have hl2 : os.length ≤ 4611686018427387904 := by omega
  have F1 : ∀ W : World, Below w.heap.size w W → Calls Try.prog 14 #[.int .i64 kind, v] W fun e w' => e = .returned (.int .i64 (Opt.find kind os)) ∧ Below W.heap.size W w' :=
    fun W hb => find_any kind v os W (hr.below hb) hl2
  have F2 : ∀ (W : World) (u : Value), ReadsO W u (os ++ [(kind, [])]) → Calls Try.prog 14 #[.int .i64 kind, u] W fun e w' => e = .returned (.int .i64 (Opt.find kind (os ++ [(kind, [])]))) ∧ Below W.heap.size W w' :=
    fun W u hu => find_any kind u _ W hu (by simp; omega)
  obtain ⟨p, cap, b, off, rfl, hcap, hp, _, hc⟩ := hr.at
  rcases Opt.find_ways kind os with ⟨h1, h2⟩ | ⟨n, h1, hn, h3, h4, h5⟩
  · rw [h1] at F1
    rw [h2] at F2
    exact find_none p cap os _ kind w rfl (Lib.hid hr) hl (Lib.hid F1) (Lib.hid F2)
  · rw [h1] at F1
    rw [h5] at F2
    obtain rfl := hp (by omega)
    have F3 : ∀ W : World, Below w.heap.size w W → Calls Try.prog 14 #[.int .i64 kind, .slice (some ⟨b, off, none⟩) n cap] W fun e w' => e = .returned (.int .i64 (-1)) ∧ Below W.heap.size W w' := fun W hb => by
      have h := find_any kind _ _ W (reads_take (hr.below hb) hn) (by rw [List.length_take]; omega)
      rwa [h4] at h
    have hcell := (hc n hn).1
    rw [h3] at hcell
    exact find_some b off cap n os _ kind w rfl hn hcap hcell (Lib.hid hr) hl (Lib.hid F1) (Lib.hid F2) (Lib.hid F3)
end Go.Proofs.Ytkbknmoheecplaa.O
