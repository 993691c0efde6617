/-
  The walk of the law of any options as bytes, any bytes as options.
-/
import Derived.Test.YtkbknmoheecplaaO9
import Derived.Test.YtkbknmoheecplaaO3
import Derived.Test.YtkbknmoheecplaaO6
import Derived.Test.YtkbknmoheecplaaSpoilO
namespace Go.Proofs.Ytkbknmoheecplaa.O
open Go.RowKit
theorem row_reads {W : World} {base : Nat} {v : Value} {os : List Opt.Op} (h : W.ownsRow base 34 2 v os.length (cellsO os)) : ReadsO W v os := by
  have hc := fun g hg => h.cells (g := g) hg
  rcases h.2 with ⟨rfl, h0⟩ | ⟨g, cap, cur, rfl, _, _, hn, _⟩
  · obtain rfl : os = [] := List.length_eq_zero_iff.1 h0
    exact reads_nil W
  · refine .inr ⟨g, 0, cap, rfl, hn, fun j u hj => ?_⟩
    have := hc g rfl j u hj
    rwa [add_lit] at this
/-- What is written over in a slice made earlier leaves one made later as it was. -/
theorem later {w4 W W' : World} {c d : Value} {M : List Opt.Op} (hcl : ∀ k, c.ownBlock = some k → k < w4.heap.size) (hd : OwnsO w4 W d M) (hg : W.grownBy W' c.ownBlock) : ReadsO W' d M := by
  refine row_reads (hd.1.kept hg ?_)
  cases h : d.ownBlock with
  | none => exact .inl rfl
  | some k =>
    refine .inr fun e => ?_
    have h1 := hcl k e.symm
    have h2 := (hd.1.lt k h).1
    omega
theorem same_yes (va vb : Value) (L : List Opt.Op) (W : World) (ha : ReadsO W va L) (hb : ReadsO W vb L) (hl : L.length ≤ 4611686018427387904) :
    Calls Try.prog 13 #[va, vb] W fun e w' => e = .returned (.bool true) ∧ Below W.heap.size W w' := by
  have h := sameO_any va vb L L W ha hb hl hl
  rwa [show decide (L = L) = true by simp] at h
/-- The front of a slice with marked room reads as what was lent. -/
theorem reads_front {W : World} {g cap : Nat} {os : List Opt.Op} (h : ReadsO W (.slice (some ⟨g, 0, none⟩) (os.length + 2) cap) (os ++ [markO, markO])) : ReadsO W (.slice (some ⟨g, 0, none⟩) os.length cap) os := by
  rcases h with ⟨h, _⟩ | ⟨b, off, cap', hv, hl, hc⟩
  · simp at h
  · simp only [Value.slice.injEq, Option.some.injEq, Addr.mk.injEq] at hv
    obtain ⟨⟨rfl, rfl, _⟩, _, rfl⟩ := hv
    refine .inr ⟨g, 0, cap, rfl, by simp at hl; omega, fun j u hj => hc j u ?_⟩
    rw [cellsO_append, List.getElem?_append_left (List.getElem?_eq_some_iff.1 hj).1]
    exact hj
/-- What a slice that was lent answers. -/
def Lent (kind : Int) (A : ByteArray) (E Z : Int) (va X : Value) (W : World) : Prop := ∀ W' : World, Below W.heap.size W W' →
  (Calls Try.prog 8 #[X] W' fun e w' => e = .returned (.tuple #[.string A, .int .i64 E]) ∧ Below W'.heap.size W' w') ∧
  (Calls Try.prog 14 #[.int .i64 kind, X] W' fun e w' => e = .returned (.int .i64 Z) ∧ Below W'.heap.size W' w') ∧
  Calls Try.prog 15 #[X, va] W' fun e w' => e = .returned (.bool true) ∧ Below W'.heap.size W' w'
set_option maxHeartbeats 3200000 in
theorem all_walk (p : Option Addr) (cap0 n m b off : Nat) (os L : List Opt.Op) (s A : ByteArray) (kind E G Z : Int) (w : World) (hn : n ≤ 4611686018427387904) (hos : Hid (os.length = n)) (hL : Hid (L.length = m ∧ L.length ≤ 4611686018427387904))
    (hi : Hid (∀ k, k < n → ∀ W' : World, (Instr.indexAt 22 (.slice p n cap0) (.int .i64 (k : Int))).run Try.prog W' = .ok (.pointer (some ⟨b, off + 2 * k, none⟩)) W'))
    (hc : Hid (∀ k (h : k < os.length), w.cell? ⟨b, off + 2 * k, none⟩ = some (.int .i64 os[k].1)))
    (hZ : Hid (∀ z, Opt.FindFrom os kind 0 z → Z = z))
    (LEND : Hid (Calls Try.prog 7 #[.slice p n cap0] w fun e w' => ∃ g cap, e = .returned (.slice (some ⟨g, 0, none⟩) n cap) ∧ Below w.heap.size w w' ∧ Lent kind A E Z (.slice p n cap0) (.slice (some ⟨g, 0, none⟩) n cap) w'))
    (REF : Hid (∀ W, Below w.heap.size w W → Calls Try.prog 9 #[.slice p n cap0] W fun e w' => e = .returned (.tuple #[.string A, .int .i64 E]) ∧ Below W.heap.size W w'))
    (GET : Hid (∀ W, Calls Try.prog 10 #[.string s] W fun e w' => ∃ q cap, e = .returned (.tuple #[.slice q m cap, .int .i64 G]) ∧ OwnsO W w' (.slice q m cap) L))
    (UN : Hid (∀ W, Calls Try.prog 11 #[.string s] W fun e w' => ∃ q cap, e = .returned (.tuple #[.slice q m cap, .int .i64 G]) ∧ OwnsO W w' (.slice q m cap) L)) :
    Calls Try.prog 3 #[.slice p n cap0, .string s, .int .i64 kind] w fun e w' => e = .returned (.bool true) ∧ Below w.heap.size w w' := by
  go_enter Try.func3, Try.ntmps3
  go_wp2_with fail
  refine LEND.out.mono ?_
  rintro e w1 ⟨g, cap, rfl, hb1, hl1⟩
  have B1 := Lib.hid hb1
  have X1 := Lib.hid hl1
  clear hb1 hl1
  go_wp2_with fail
  refine (X1.out w1 (Below.refl _ _)).1.mono ?_
  rintro e w2 ⟨rfl, hb2⟩
  have B2 := Lib.hid (bel2 B1.out hb2)
  have Y2 := Lib.hid hb2
  clear hb2
  go_wp2_with fail
  refine (REF.out _ B2.out).mono ?_
  rintro e w3 ⟨rfl, hb3⟩
  have B3 := Lib.hid (bel2 B2.out hb3)
  have Y3 := Lib.hid (bel2 Y2.out hb3)
  clear hb3
  go_wp2_with fail
  refine (GET.out _).mono ?_
  rintro e w4 ⟨q1, cap1, rfl, ho4⟩
  have B4 := Lib.hid (bel2 B3.out ho4.2)
  have Y4 := Lib.hid (bel2 Y3.out ho4.2)
  have C4 := Lib.hid ho4
  clear ho4
  go_wp2_with fail
  refine (GET.out _).mono ?_
  rintro e w5 ⟨q2, cap2, rfl, ho5⟩
  have B5 := Lib.hid (bel2 B4.out ho5.2)
  have Y5 := Lib.hid (bel2 Y4.out ho5.2)
  have Z5 := Lib.hid ho5.2
  have D5 := Lib.hid ho5
  clear ho5
  go_wp2_with fail
  refine (UN.out _).mono ?_
  rintro e w6 ⟨q3, cap3, rfl, ho6⟩
  have B6 := Lib.hid (bel2 B5.out ho6.2)
  have Y6 := Lib.hid (bel2 Y5.out ho6.2)
  have Z6 := Lib.hid (bel2 Z5.out ho6.2)
  have V6 := Lib.hid ho6.2
  have O6 := Lib.hid ho6
  clear ho6
  go_wp2_with fail
  go_loopw [18, 19] (fun a i wr => ∃ (k : Nat) (y z : Int), k ≤ n ∧ y = (k : Int) - 1 ∧ i = .int .i64 y ∧ a = .int .i64 z ∧ Opt.FindFrom os kind k z ∧ Below w6.heap.size w6 wr) (fun _ i _ => (intOf i + 1).toNat)
  case atStart => exact ⟨n, _, _, Nat.le_refl _, rfl, by go_num, rfl, by rw [← hos.out]; exact Opt.find_end os kind, Below.refl _ _⟩
  case round =>
    obtain ⟨k, y, z, hk, hy, rfl, rfl, hf, hb⟩ := hrel
    have HF := Lib.hid hf
    have HB := Lib.hid hb
    clear hf hb
    cases k with
    | zero =>
      obtain rfl : y = -1 := by omega
      have hz := hZ.out z HF.out
      subst hz
      have B7 := Lib.hid (bel2 B6.out HB.out)
      have Y7 := Lib.hid (bel2 Y6.out HB.out)
      have K4 : Hid (∀ k, (Value.slice q1 m cap1).ownBlock = some k → w3.heap.size ≤ k ∧ k < w4.heap.size) := Lib.hid fun k hk => C4.out.1.lt k hk
      have C7 := Lib.hid (C4.out.below (bel2 Z6.out HB.out))
      have D7 := Lib.hid (D5.out.below (bel2 V6.out HB.out))
      have O7 := Lib.hid (O6.out.below HB.out)
      clear HF hy
      have qE : (E != E) = false := by simp
      have qG : (G != G) = false := by simp
      have qZ : (Z != Z) = false := by simp
      go_wp2_with (first | (go_at_call 12; refine (num_any _ _).mono ?_; rintro e w9 ⟨rfl, rfl⟩) | (refine (same_yes _ _ L _ C7.out.reads O7.out.reads hL.out.2).mono ?_; rintro e w8 ⟨rfl, hb8⟩; have B8 := Lib.hid (bel2 B7.out hb8); have Y8 := Lib.hid (bel2 Y7.out hb8); have C8 := Lib.hid (C7.out.below hb8); have D8 := Lib.hid (D7.out.below hb8); have O8 := Lib.hid (O7.out.below hb8); clear hb8) | (refine (X1.out _ Y8.out).2.1.mono ?_; rintro e w9 ⟨rfl, hb9⟩; have B9 := Lib.hid (bel2 B8.out hb9); have Y9 := Lib.hid (bel2 Y8.out hb9); have C9 := Lib.hid (C8.out.below hb9); have D9 := Lib.hid (D8.out.below hb9); have O9 := Lib.hid (O8.out.below hb9); clear hb9) | (refine (X1.out _ Y9.out).2.2.mono ?_; rintro e wa ⟨rfl, hba⟩; have BA := Lib.hid (bel2 B9.out hba); have CA := Lib.hid (C9.out.below hba); have DA := Lib.hid (D9.out.below hba); have OA := Lib.hid (O9.out.below hba); clear hba))
      refine (spoilO_any _ L w3 wa CA.out hL.out.2).mono ?_
      rintro e wb ⟨rfl, hg⟩
      have BB := Lib.hid (BA.out.grown hg BA.out.size fun k hk => Nat.le_trans B3.out.size (K4.out k hk).1)
      have DB := Lib.hid (later (fun k hk => (K4.out k hk).2) DA.out hg)
      have OB := Lib.hid (later (fun k hk => Nat.lt_of_lt_of_le (K4.out k hk).2 Z5.out.size) OA.out hg)
      clear hg
      go_wp2_with (first | (refine (same_yes _ _ L _ DB.out OB.out hL.out.2).mono ?_; rintro e wc ⟨rfl, hbc⟩; have BC := Lib.hid (bel2 BB.out hbc); clear hbc) | (refine (awake_any _).mono ?_; rintro e wd ⟨rfl, hbd⟩; have BD := Lib.hid (bel2 BC.out hbd); clear hbd))
      go_ret
      exact ⟨rfl, BD.out⟩
    | succ j =>
      obtain rfl : y = (j : Int) := by omega
      have hj : j < n := by omega
      have hjl : j < os.length := by have := hos.out; omega
      have hi2 := hi.out j hj
      have hc0 := hc.out j hjl
      rw [← (bel2 B6.out HB.out).cell (block_lt_of_cell hc0)] at hc0
      have HM := Lib.hid fun e => Opt.find_miss os kind j hjl e z HF.out
      have HH := Lib.hid fun e => Opt.find_hit os kind j hjl e
      generalize os[j].1 = x at *
      obtain ⟨o8, ho8⟩ : ∃ o8, o8 = off + 2 * j := ⟨_, rfl⟩
      rw [← ho8] at hi2 hc0
      clear ho8 hjl hy
      by_cases hx : x = kind
      · subst hx
        have HH2 := Lib.hid (HH.out rfl)
        clear HM HH
        have q0 : (x == x) = true := by simp
        go_wp2_with fail
        go_roundw
        case rel => exact ⟨j, _, _, by omega, rfl, by go_num, rfl, HH2.out, HB.out⟩
        case measure => simp [intOf]
      · have HM2 := Lib.hid (HM.out hx)
        have q0 : (x == kind) = false := by simpa using hx
        clear HM HH hx
        go_wp2_with fail
        go_roundw
        case rel => exact ⟨j, _, _, by omega, rfl, by go_num, rfl, HM2.out, HB.out⟩
        case measure => simp [intOf]
theorem walk_all (v : Value) (os : List Opt.Op) (s : ByteArray) (kind : Int) (w : World) (hr : ReadsO w v os) (hl : os.length * 24 ≤ 140737488351232) (hd : ∀ o ∈ os, o.2.length ≤ 140737488351232) (hs : s.size ≤ 9223372036854775807) (_ : (Lit.int .i64 kind).wf = true) :
    Calls Try.prog 3 #[v, .string s, .int .i64 kind] w fun e w' => e = .returned (.bool true) ∧ Below w.heap.size w w' := by
  have hl2 : os.length ≤ 4611686018427387904 := by omega
  obtain ⟨l, rfl⟩ : ∃ l : List UInt8, s = ⟨l.toArray⟩ := ⟨s.data.toList, by simp⟩
  rw [sz] at hs
  have hcount := Opt.get_count l
  obtain ⟨p, cap0, b, off, rfl, _, _, hi, hc⟩ := hr.at
  refine all_walk p cap0 os.length (Opt.get l).1.length b off os (Opt.get l).1 ⟨l.toArray⟩ ⟨(Opt.put os).toArray⟩ kind (Opt.code os) (Opt.get l).2 (Opt.find kind os) w hl2 (Lib.hid rfl) (Lib.hid ⟨rfl, by omega⟩)
    (Lib.hid hi) (Lib.hid fun k h => (hc k h).1) (Lib.hid fun z h => Opt.find_eq kind os z h) (Lib.hid ?_) (Lib.hid ?_) (Lib.hid ?_) (Lib.hid ?_)
  · refine (lendO_any _ os w hr (by omega)).mono ?_
    rintro e w1 ⟨g, cap, rfl, ho, hcap⟩
    refine ⟨g, cap, rfl, ho.2, fun W hb => ?_⟩
    have hw : Below w.heap.size w W := bel2 ho.2 hb
    have h2 : ReadsO W (.slice (some ⟨g, 0, none⟩) (os.length + 2) cap) (os ++ [markO, markO]) := ho.reads.below hb
    have hx := reads_front h2
    exact ⟨oput_any _ os W hx hl2, find_any kind _ os W hx hl2, keptO_any _ os g cap W hcap h2 (hr.below hw) hl2⟩
  · exact fun W hb => ropts_any _ os W (hr.below hb) hl2 fun o ho => by have := hd o ho; omega
  · intro W
    refine (oget_any l W hs).mono ?_
    rintro e w' ⟨u, rfl, ho⟩
    obtain ⟨q, cap, _, _, rfl, _⟩ := ho.reads.at
    exact ⟨q, cap, rfl, ho⟩
  · intro W
    refine (runopts_any l W hs).mono ?_
    rintro e w' ⟨u, rfl, ho⟩
    obtain ⟨q, cap, _, _, rfl, _⟩ := ho.reads.at
    exact ⟨q, cap, rfl, ho⟩
end Go.Proofs.Ytkbknmoheecplaa.O
