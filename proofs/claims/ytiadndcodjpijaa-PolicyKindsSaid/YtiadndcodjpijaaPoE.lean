/-
  The walk of the law of one option alone.
-/
import Derived.Test.YtiadndcodjpijaaPoC
import Derived.Test.YtiadndcodjpijaaPoMath3
import Derived.Test.YtiadndcodjpijaaMods
import Derived.Deep.QuietTactic
import Derived.BigQuiet
namespace Go.Proofs.Ytiadndcodjpijaa.Pl
open Go.RowKit
/-- How one option alone fares. -/
def Way (k : Nat) (D D' : ByteArray) (m : Nat) (s : Bool) (vd : Int) : Prop :=
  (D' = D ∧ ((k = 23 ∧ m = 2 ∧ vd = 0) ∨ (k = 23 ∧ (m : Int) ≠ 2 ∧ vd = 2) ∨ (k = 19 ∧ m = 0 ∧ vd = 2) ∨ (k = 19 ∧ 1 ≤ m ∧ m ≤ 20 ∧ vd = 0) ∨ (k = 19 ∧ 20 < m ∧ vd = 2) ∨
    (k = 18 ∧ D = ⟨#[]⟩ ∧ s = true ∧ vd = 0) ∨ (k = 18 ∧ D = ⟨#[]⟩ ∧ s = false ∧ vd = 2) ∨ (k = 18 ∧ D.toList.isEmpty = false ∧ vd = 2) ∨
    (k = 1 ∧ (m : Int) ≠ 2 ∧ vd = 2) ∨ (k = 17 ∧ (m : Int) ≠ 2 ∧ vd = 2) ∨ (k = 5 ∧ (m : Int) ≠ 4 ∧ vd = 2) ∨
    (k = 5 ∧ m = 4 ∧ (D.toList == [0, 0, 0, 0]) = false ∧ (D.toList == [0, 0, 0, 9]) = false ∧ vd = 0) ∨
    ((k : Int) ≠ 1 ∧ (k : Int) ≠ 5 ∧ (k : Int) ≠ 17 ∧ (k : Int) ≠ 18 ∧ (k : Int) ≠ 19 ∧ (k : Int) ≠ 23 ∧ vd = 2))) ∨
  (k = 5 ∧ (D = ⟨#[0, 0, 0, 0]⟩ ∨ D = ⟨#[0, 0, 0, 9]⟩) ∧ vd = 1) ∨
  ((k = 1 ∨ k = 17) ∧ ∃ y0 y1 : UInt8, D = ⟨#[y0, y1]⟩ ∧ (((y0.toNat : Int) * 256 + y1.toNat < 128 ∧ vd = 1) ∨ (1500 < (y0.toNat : Int) * 256 + y1.toNat ∧ vd = 1) ∨ (128 ≤ (y0.toNat : Int) * 256 + y1.toNat ∧ (y0.toNat : Int) * 256 + y1.toNat ≤ 1500 ∧ vd = 0 ∧ D' = D)))
theorem way_long {k : Nat} {D D' : ByteArray} {s : Bool} {vd : Int} (hm : D.size = 40) (h : Way k D D' 40 s vd) : D' = D ∧ vd = 2 ∧ (k = 23 ∨ k = 19 ∨ (k = 18 ∧ D.toList.isEmpty = false) ∨ k = 1 ∨ k = 17 ∨ k = 5 ∨ ((k : Int) ≠ 1 ∧ (k : Int) ≠ 5 ∧ (k : Int) ≠ 17 ∧ (k : Int) ≠ 18 ∧ (k : Int) ≠ 19 ∧ (k : Int) ≠ 23)) := by
  have no : ∀ l : Array UInt8, l.size < 40 → D ≠ ⟨l⟩ := fun l hl e => by
    have : D.size = l.size := by rw [e]; rfl
    omega
  rcases h with ⟨e, h⟩ | ⟨_, h, _⟩ | ⟨_, y0, y1, h, _⟩
  · rcases h with ⟨_, h, _⟩ | ⟨a, _, v⟩ | ⟨_, h, _⟩ | ⟨_, _, h, _⟩ | ⟨a, _, v⟩ | ⟨_, h, _⟩ | ⟨_, h, _⟩ | ⟨a, b, v⟩ | ⟨a, _, v⟩ | ⟨a, _, v⟩ | ⟨a, _, v⟩ | ⟨_, h, _⟩ | ⟨h1, h2, h3, h4, h5, h6, v⟩
    · omega
    · exact ⟨e, v, .inl a⟩
    · omega
    · omega
    · exact ⟨e, v, .inr (.inl a)⟩
    · exact absurd h (no _ (by decide))
    · exact absurd h (no _ (by decide))
    · exact ⟨e, v, .inr (.inr (.inl ⟨a, b⟩))⟩
    · exact ⟨e, v, .inr (.inr (.inr (.inl a)))⟩
    · exact ⟨e, v, .inr (.inr (.inr (.inr (.inl a))))⟩
    · exact ⟨e, v, .inr (.inr (.inr (.inr (.inr (.inl a)))))⟩
    · omega
    · exact ⟨e, v, .inr (.inr (.inr (.inr (.inr (.inr ⟨h1, h2, h3, h4, h5, h6⟩)))))⟩
  · rcases h with h | h
    · exact absurd h (no _ (by decide))
    · exact absurd h (no _ (by decide))
  · exact absurd h (no _ (by simp))
set_option maxHeartbeats 6400000 in
set_option maxRecDepth 100000 in
theorem kinds_walk (kind : Int) (k : Nat) (D0 D D' : ByteArray) (d d' : List UInt8) (s : Bool) (vd : Int) (w : World) (PO : Hid (PolOk w)) (hk : wrap64 ((IntKind.u64.wrap kind).tmod 30) = (k : Int)) (hk2 : k < 30) (HD : Hid (D = ⟨d.toArray⟩)) (HD' : Hid (D' = ⟨d'.toArray⟩))
    (hcut : (D0.size ≤ 40 ∧ D = D0) ∨ (40 < D0.size ∧ D0.extract 0 40 = D)) (m : Nat) (hm : D.size = m) (hm2 : m ≤ 40) (way : Way k D D' m s vd)
    (J : Hid (∀ v W, Below w.heap.size w W → ReadsO W v [((k : Int), d)] → Calls Try.prog 13 #[.agg #[.int .i64 0, .int .i64 9, .int .i64 0, .bool s, .string { data := #[] }, .int .i64 0], v] W fun e w' => ∃ u, e = .returned (.tuple #[.int .i64 vd, u, .int .i64 0]) ∧ ReadsO w' u [((k : Int), d')] ∧ Below W.heap.size W w')) :
    Calls Try.prog 5 #[.int .i64 kind, .string D0, .bool s] w fun e w' => e = .returned (.bool true) ∧ Below w.heap.size w w' := by
  have L1 : Hid (∀ (W : World) (n : Nat), W.heap.size = n → ReadsO (W.alloc (.cells #[.int .i64 (k : Int), .string D] 36)) (.slice (some ⟨n, 0, none⟩) 1 1) [((k : Int), d)]) := Lib.hid fun W n hn => by
    have h := reads_lit_at W n hn [((k : Int), d)] _ rfl
    rw [HD.out]
    exact h
  have W0 := Lib.hid way
  clear way HD
  rcases hcut with ⟨hc, rfl⟩ | ⟨hc, hx⟩
  all_goals
    go_enter Try.func5, Try.ntmps5
    go_upto_region 9 with (first | (go_at_call 9; (refine (awake_any _ PO).mono ?_); rintro e w2 ⟨rfl, hb2⟩; have B2 := Lib.hid hb2; clear hb2) |
      (go_at_call 13; (with_reducible refine (J.out _ _ ((B2.out.alloc B2.out.size _).alloc (B2.out.alloc B2.out.size _).size _) (L1.out _ (w2.heap.size + 1) (by simp))).mono ?_); rintro e w3 ⟨u3, rfl, r3, hb3⟩; obtain ⟨b3, f3, cap3, rfl⟩ := reads_pos r3 (by simp); have R3 := Lib.hid r3; have B3 := Lib.hid (bel2 ((B2.out.alloc B2.out.size _).alloc (B2.out.alloc B2.out.size _).size _) hb3); clear r3 hb3))
  all_goals
    have c0 : w3.cell? ⟨b3, f3, none⟩ = some (.int .i64 (k : Int)) := (reads_cells R3.out 0 (by simp)).1
    have c1 : w3.cell? ⟨b3, f3 + 1, none⟩ = some (.string D') := by rw [HD'.out]; exact (reads_cells R3.out 0 (by simp)).2
    have ix := opt_index b3 f3 1 cap3 0 (by decide)
    have way := W0.out
    clear W0 J L1 R3 HD' PO hk
  · rcases way with ⟨rfl, h⟩ | ⟨rfl, h, rfl⟩ | ⟨hk, y0, y1, rfl, h⟩
    · rcases h with ⟨rfl, rfl, rfl⟩ | ⟨rfl, h, rfl⟩ | ⟨rfl, rfl, rfl⟩ | ⟨rfl, h, h2, rfl⟩ | ⟨rfl, h, rfl⟩ | ⟨rfl, rfl, rfl, rfl⟩ | ⟨rfl, rfl, rfl, rfl⟩ | ⟨rfl, h, rfl⟩ | ⟨rfl, h, rfl⟩ | ⟨rfl, h, rfl⟩ | ⟨rfl, h, rfl⟩ | ⟨rfl, rfl, h, h2, rfl⟩ | ⟨h1, h2, h3, h4, h5, h6, rfl⟩
      all_goals go_wp2_with (go_at_call 11; (refine (num_any _ _).mono ?_); rintro e w10 ⟨rfl, rfl⟩)
      all_goals go_ret
      all_goals exact ⟨rfl, B3.out⟩
    · rcases h with rfl | rfl
      all_goals obtain rfl : m = 4 := by rw [← hm]; rfl
      all_goals go_wp2_with (go_at_call 11; (refine (num_any _ _).mono ?_); rintro e w10 ⟨rfl, rfl⟩)
      all_goals go_ret
      all_goals exact ⟨rfl, B3.out⟩
    · obtain rfl : m = 2 := by rw [← hm]; rfl
      have hx := high_plus y0 y1
      obtain ⟨x, hxx⟩ : ∃ x, x = y0.toNat * 256 + y1.toNat := ⟨_, rfl⟩
      have hxi : (y0.toNat : Int) * 256 + y1.toNat = (x : Int) := by omega
      rw [hxi] at h
      rw [← hxx] at hx
      clear hxx hxi
      have y0e : ∀ h, ({ data := #[y0, y1] } : ByteArray)[0]'h = y0 := fun _ => rfl
      have y1e : ∀ h, ({ data := #[y0, y1] } : ByteArray)[1]'h = y1 := fun _ => rfl
      rcases hk with rfl | rfl
      all_goals
        rcases h with ⟨h, rfl⟩ | ⟨h, rfl⟩ | ⟨h, h2, rfl, rfl⟩
        all_goals go_wp2_with (go_at_call 11; (refine (num_any _ _).mono ?_); rintro e w10 ⟨rfl, rfl⟩)
        all_goals go_quiet (fail)
        all_goals go_wp2_with (go_at_call 11; (refine (num_any _ _).mono ?_); rintro e w10 ⟨rfl, rfl⟩)
        all_goals go_ret
        all_goals exact ⟨rfl, below_drewN B3.out nq⟩
  · obtain rfl : m = 40 := by rw [← hm, ← hx, ByteArray.size_extract]; omega
    obtain ⟨rfl, rfl, h⟩ := way_long hm way
    rcases h with rfl | rfl | ⟨rfl, h⟩ | rfl | rfl | rfl | ⟨h1, h2, h3, h4, h5, h6⟩
    all_goals go_wp2_with (go_at_call 11; (refine (num_any _ _).mono ?_); rintro e w10 ⟨rfl, rfl⟩)
    all_goals go_ret
    all_goals exact ⟨rfl, B3.out⟩
end Go.Proofs.Ytiadndcodjpijaa.Pl
